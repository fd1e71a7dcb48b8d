/- Texts BeA BeB BeC CmG TreeB CoB CoM CoC CoC2 CoD CoE CoF CoG BeT CmK BeU IdK IdJ LfK LfE ParM PrtM PrtN PrtO TokF PrtQ ParS DkR DkM LfF. -/
import Derived.Test.YtoigoojdbpbhoagGreatDoorJ02
import Derived.Test.YtoigoojdbpbhoagGreatDoorJ00
import Derived.Lib.Join
import Derived.Lib.Bytealg
namespace Go.Proofs.YtoigoojdbpbhoagGreatDoor
set_option maxRecDepth 20000
set_option maxHeartbeats 4000000
namespace E
section
open Go.Proofs
abbrev tLg : Nat := 2
def lgs (l : List Int) : List Value := l.map fun k => Value.int .i64 k
theorem lgs_length (l : List Int) : (lgs l).length = l.length := by simp [lgs]
theorem lgs_one (l : List Int) : ∀ u ∈ lgs l, u.oneCell' = true := by
 intro u hu
 simp only [lgs, List.mem_map] at hu
 obtain ⟨x, _, rfl⟩ := hu
 rfl
theorem lgs_app (a b : List Int) : lgs (a ++ b) = lgs a ++ lgs b := by simp [lgs]
theorem lgs_at {l : List Int} {i : Nat} {x : Int} (h : l[i]? = some x) : (lgs l)[i]? = some (.int .i64 x) := by simp [lgs, h]
abbrev RowL (w : World) (B : Nat) (v : Value) (l : List Int) : Prop := Own w B tLg 1 v l.length (lgs l)
def obs (v : Value) : List Nat := v.ownBlock.toList
theorem mem_obs {v : Value} {k : Nat} : k ∈ obs v ↔ v.ownBlock = some k := by simp [obs]
def Apt (u v : Value) : Prop := ∀ k ∈ obs u, k ∉ obs v
section
variable {w w' : World} {B : Nat} {v : Value} {l : List Int}
theorem RowL.nil (w : World) (B : Nat) : RowL w B (.slice none 0 0) [] := Own.nil w B tLg 1
theorem RowL.keep {fp : List Nat} (h : RowL w B v l) (hk : Keep fp w w') (hn : ∀ k ∈ obs v, k ∉ fp) : RowL w' B v l := Own.keep h hk fun k hv => hn k (mem_obs.2 hv)
theorem RowL.lt (h : RowL w B v l) : ∀ k ∈ obs v, B ≤ k ∧ k < w.heap.size := fun k hk => Own.lt h k (mem_obs.1 hk)
theorem RowL.blk (h : RowL w B v l) : ∀ k ∈ obs v, ∃ L, Blk w k L tLg := fun k hk => by
 have hk := mem_obs.1 hk
 rcases h.2 with ⟨rfl, _⟩ | ⟨g, cap, cur, rfl, _, hg, _⟩
 ·simp [Value.ownBlock] at hk
 ·simp only [Value.ownBlock, Option.some.injEq] at hk
  subst hk
  exact ⟨cur, hg⟩
theorem RowL.ne (h : RowL w B v l) {b : Nat} {L : List Value} {e : TypeId} (hb : Blk w b L e) (he : e ≠ tLg) : ∀ k ∈ obs v, k ∉ [b] := fun k hk hm => by
 obtain ⟨L', hL'⟩ := h.blk k hk
 rw [List.mem_singleton.1 hm] at hL'
 exact Blk.ne hb hL' he rfl
theorem RowL.form (h : RowL w B v l) : ∃ a cap, v = .slice a l.length cap := Own.form h
theorem RowL.cap {a : Option Addr} {n cap : Nat} (h : RowL w B (.slice a n cap) l) : l.length ≤ cap := by
 rcases h.2 with ⟨hv, h0⟩ | ⟨g, c, cur, hv, _, _, hc, _⟩
 ·omega
 ·cases hv; exact hc
theorem RowL.at (h : RowL w B v l) {i : Nat} {x : Int} (hx : l[i]? = some x) : ∃ g cap, v = .slice (some ⟨g, 0, none⟩) l.length cap ∧ w.cell? ⟨g, i, none⟩ = some (.int .i64 x) := by
 have hi := (List.getElem?_eq_some_iff.1 hx).1
 rcases h.2 with ⟨_, h0⟩ | ⟨g, cap, cur, hv, _, hg, _, _, ht⟩
 ·omega
 ·refine ⟨g, cap, hv, hg.cell ?_⟩
  have := lgs_at hx
  rw [← ht, Nat.mul_one, List.getElem?_take] at this
  rw [if_pos hi] at this
  exact this
theorem RowL.set (h : RowL w B v l) {i : Nat} (hi : i < l.length) {g cap : Nat} (hv : v = .slice (some ⟨g, 0, none⟩) l.length cap) : ∃ cur, Blk w g cur tLg ∧ i < cur.length ∧ ∀ {w' : World} {n : Int}, Blk w' g (splice cur i [.int .i64 n]) tLg → RowL w' B v (l.set i n) := by
 subst hv
 rcases h.2 with ⟨hv, h0⟩ | ⟨g', c, cur, hv, hb, hg, hc, hl', ht⟩
 ·injection hv with g1
  cases g1
 ·cases hv
  have hic : i < cur.length := by omega
  refine ⟨cur, hg, hic, fun {w' n} hb' => ⟨by rw [lgs_length]; simp, .inr ⟨g, cap, _, by simp, hb, hb', by simpa using hc, by rw [splice_length (by simp; omega)]; exact hl', ?_⟩⟩⟩
  have e1 : splice cur i [.int .i64 n] = cur.set i (.int .i64 n) := by
   unfold splice
   rw [List.set_eq_take_append_cons_drop, if_pos hic]
   simp
  rw [e1, List.length_set, Nat.mul_one, List.take_set, ← Nat.mul_one l.length, ht]
  simp [lgs, List.map_set]
end
end
section
open Go.Proofs
theorem size_ls : sizeOk Tryz.prog 28 1 = true := by kernel_rfl
theorem slice_lg (n : Int) : sliceCells Tryz.prog 28 1 [(0, .int .i64 n)] = some (tLg, [Value.int .i64 n].toArray) := by kernel_rfl
theorem app_lg : appOk Tryz.prog 28 tLg 1 8 = true := by decide +kernel
theorem one_v {v : Value} (h : v.oneCell' = true) : ∀ u ∈ [v], u.oneCell' = true := by
 intro u hu
 simp only [List.mem_cons, List.not_mem_nil, or_false] at hu
 subst hu
 exact h
end
section
open Go.Proofs
theorem RowL.at2 {w : World} {B : Nat} {v : Value} {l : List Int} (h : RowL w B v l) {i : Nat} {x : Int} (hx : l[i]? = some x) : ∃ g cap, v = .slice (some ⟨g, 0, none⟩) l.length cap ∧ g < w.heap.size ∧ w.rangeAt g i [.int .i64 x] := by
 obtain ⟨g, cap, hv, hc⟩ := h.at hx
 refine ⟨g, cap, hv, (h.lt g (by rw [hv]; simp [obs, Value.ownBlock])).2, fun j u hu => ?_⟩
 have hj : j = 0 := by have := (List.getElem?_eq_some_iff.1 hu).1; simp at this; omega
 subst hj
 have : u = .int .i64 x := by simpa using hu.symm
 subst this
 exact hc
theorem topS_at {l : List Int} {j : Nat} (h : l.length = j + 1) : l[j]? = some (topS l) := by
 unfold topS
 rw [List.getLastD_eq_getLast?, List.getLast?_eq_getElem?, h, Nat.add_sub_cancel, List.getElem?_eq_getElem (by omega)]
 rfl
theorem cellAt_nat {l : List Int} {a : Nat} (h : a < l.length) : l[a]? = some (cellAt l ((a : Nat) : Int)) := by
 unfold cellAt
 rw [Int.toNat_natCast, List.getD_eq_getElem?_getD, List.getElem?_eq_getElem h]
 rfl
def LsV (w : World) (v : Value) (l : List Int) : Prop := ∃ a cap, v = .slice a l.length cap ∧ (0 < l.length → ∃ b q, a = some ⟨b, q, none⟩ ∧ b < w.heap.size ∧ w.rangeAt b q (lgs l))
theorem RowL.lies {w : World} {B : Nat} {v : Value} {l : List Int} (h : RowL w B v l) : LsV w v l := by
 rcases h.2 with ⟨h1, h2⟩ | ⟨g, cap, cur, h1, hB, hb, hc, hl, ht⟩
 ·exact ⟨none, 0, by rw [h1, h2], fun h0 => by omega⟩
 ·exact ⟨_, cap, h1, fun h0 => ⟨g, 0, rfl, hb.lt, hb.range (by rw [List.drop_zero, lgs_length, ← Nat.mul_one l.length]; exact ht)⟩⟩
theorem LsV.keep0 {w w' : World} {v : Value} {l : List Int} (h : LsV w v l) (hk : Keep [] w w') : LsV w' v l := by
 obtain ⟨a, cap, h1, h2⟩ := h
 refine ⟨a, cap, h1, fun h0 => ?_⟩
 obtain ⟨b, q, h3, h4, h5⟩ := h2 h0
 exact ⟨b, q, h3, Nat.lt_of_lt_of_le h4 hk.size, range_keep h5 hk h4 (by simp)⟩
end
mutual
def gdE (nv : Nat) : ET → Prop
 | .mk op v _ l => (op = 2 ∨ op = 3 → 0 ≤ v ∧ v.toNat < nv) ∧ gdEs nv l
def gdEs (nv : Nat) : List ET → Prop
 | [] => True
 | t :: r => gdE nv t ∧ gdEs nv r
end
mutual
def gdS (nv : Nat) : ST → Prop
 | .mk op v e f b o => 1 ≤ op ∧ op ≤ 7 ∧ (needV op = true → 0 ≤ v ∧ v.toNat < nv) ∧ (needE op = true → gdE nv e) ∧ (needF op = true → gdE nv f) ∧ gdSs nv b ∧ gdSs nv o
def gdSs (nv : Nat) : List ST → Prop
 | [] => True
 | t :: r => gdS nv t ∧ gdSs nv r
end
theorem gdEs_at {nv : Nat} : ∀ {l : List ET} {i : Nat} {t : ET}, gdEs nv l → l[i]? = some t → gdE nv t
 | [], _, _, _, h => by simp at h
 | x :: r, 0, t, h, e => by simp at e; subst e; exact h.1
 | x :: r, i + 1, t, h, e => by simp at e; exact gdEs_at h.2 e
theorem gdSs_at {nv : Nat} : ∀ {l : List ST} {i : Nat} {t : ST}, gdSs nv l → l[i]? = some t → gdS nv t
 | [], _, _, _, h => by simp at h
 | x :: r, 0, t, h, e => by simp at e; subst e; exact h.1
 | x :: r, i + 1, t, h, e => by simp at e; exact gdSs_at h.2 e
mutual
theorem chkE_gd {nv : Nat} : ∀ (t : ET) {d k k' : Nat}, chkE nv t d k = .ok k' → gdE nv t
 | .mk op v n l, d, k, k', h => by
  obtain ⟨_, h1, k1, h2⟩ := chkE_inv h
  obtain ⟨_, _, _, _, c, _⟩ := ownE_inv h1
  exact ⟨c, chkEs_gd l h2⟩
theorem chkEs_gd {nv : Nat} : ∀ (l : List ET) {d k k' : Nat}, chkEs nv l d k = .ok k' → gdEs nv l
 | [], _, _, _, _ => trivial
 | t :: r, d, k, k', h => by
  obtain ⟨⟨k1, h1⟩, k2, h2⟩ := chkEs_inv h
  exact ⟨chkE_gd t h1, chkEs_gd r h2⟩
end
mutual
theorem chkS_gd {nv : Nat} : ∀ (t : ST) {d k k' : Nat}, chkS nv t d k = .ok k' → gdS nv t
 | .mk op v e f b o, d, k, k', h => by
  obtain ⟨_, h1, h2, h3, ⟨k1, k2, h4⟩, k3, k4, h5⟩ := chkS_inv h
  obtain ⟨a, a', _, _, _, _, c, _⟩ := ownS_inv h1
  exact ⟨a, a', c, fun hn => (let ⟨_, _, hc⟩ := h2 hn; chkE_gd e hc), fun hn => (let ⟨_, _, hc⟩ := h3 hn; chkE_gd f hc), chkSs_gd b h4, chkSs_gd o h5⟩
theorem chkSs_gd {nv : Nat} : ∀ (l : List ST) {d k k' : Nat}, chkSs nv l d k = .ok k' → gdSs nv l
 | [], _, _, _, _ => trivial
 | t :: r, d, k, k', h => by
  obtain ⟨⟨k1, h1⟩, k2, h2⟩ := chkSs_inv h
  exact ⟨chkS_gd t h1, chkSs_gd r h2⟩
end
theorem range_subT {w : World} {b p : Nat} {cs ds : List Value} (h : w.rangeAt b p cs) (k : Nat) (hd : (cs.drop k).take ds.length = ds) : w.rangeAt b (p + k) ds := fun j u hu => by
 rw [← hd, List.getElem?_take] at hu
 split at hu
 ·rw [List.getElem?_drop] at hu
  have := h (k + j) u hu
  rwa [← Nat.add_assoc] at this
 ·cases hu
def scells (op v : Int) (ce cf : List Value) (bv ov : Value) : List Value := [.int .i64 op, .int .i64 v] ++ ce ++ cf ++ [bv, ov]
structure StmtAt (F : Nat → Prop) (w : World) (b p : Nat) (op v : Int) (e f : ET) (lb lo : List ST) (ce cf : List Value) (bv ov : Value) : Prop where
 whole : w.rangeAt b p (scells op v ce cf bv ov)
 cop : w.cell? ⟨b, p + 0, none⟩ = some (.int .i64 op)
 cv : w.cell? ⟨b, p + 1, none⟩ = some (.int .i64 v)
 re : w.rangeAt b (p + 2) ce
 rf : w.rangeAt b (p + 6) cf
 cb : w.cell? ⟨b, p + 10, none⟩ = some bv
 co : w.cell? ⟨b, p + 11, none⟩ = some ov
 he : ExprV F w ce e
 hf : ExprV F w cf f
 hb : StmtsV F w bv lb
 ho : StmtsV F w ov lo
 inF : F b
theorem list4 {cs : List Value} (h : cs.length = 4) : ∃ a b c d, cs = [a, b, c, d] := by
 match cs, h with
 | [a, b, c, d], _ => exact ⟨a, b, c, d, rfl⟩
theorem stmtAt_mk {F : Nat → Prop} {w : World} {b p : Nat} {op v : Int} {e f : ET} {lb lo : List ST} {ce cf : List Value} {bv ov : Value} (h : w.rangeAt b p (scells op v ce cf bv ov)) (hF : F b) (he : ExprV F w ce e) (hf : ExprV F w cf f) (hb : StmtsV F w bv lb) (ho : StmtsV F w ov lo) : StmtAt F w b p op v e f lb lo ce cf bv ov := by
 obtain ⟨a0, a1, a2, a3, rfl⟩ := list4 he.length
 obtain ⟨b0, b1, b2, b3, rfl⟩ := list4 hf.length
 exact ⟨h, h 0 _ rfl, h 1 _ rfl, range_subT h 2 rfl, range_subT h 6 rfl, h 10 _ rfl, h 11 _ rfl, he, hf, hb, ho, hF⟩
theorem StmtsV.stmtAt {F : Nat → Prop} {w : World} {x : Value} {l : List ST} (h : StmtsV F w x l) {i : Nat} {op v : Int} {e f : ET} {lb lo : List ST} (ht : l[i]? = some (.mk op v e f lb lo)) :
  ∃ b q cap ce cf bv ov, x = .slice (some ⟨b, q, none⟩) l.length cap ∧ StmtAt F w b (q + i * 12) op v e f lb lo ce cf bv ov := by
 obtain ⟨b, q, cap, ci, hv, hF, hra, hci⟩ := h.at ht
 obtain ⟨ce, cf, bv, ov, rfl, he, hf, hb, ho⟩ := hci.inv
 exact ⟨b, q, cap, ce, cf, bv, ov, hv, stmtAt_mk hra hF he hf hb ho⟩
theorem StmtAt.keep {F : Nat → Prop} {w w' : World} {b p : Nat} {op v : Int} {e f : ET} {lb lo : List ST} {ce cf : List Value} {bv ov : Value} {fp : List Nat} (h : StmtAt F w b p op v e f lb lo ce cf bv ov) (hk : Keep fp w w') (hs : Stays F w fp) : StmtAt F w' b p op v e f lb lo ce cf bv ov :=
 stmtAt_mk (range_keep h.whole hk (hs b h.inF).1 (hs b h.inF).2) h.inF (h.he.keep hk hs) (h.hf.keep hk hs) (h.hb.keep hk hs) (h.ho.keep hk hs)
theorem StmtAt.stmt {F : Nat → Prop} {w : World} {b p : Nat} {op v : Int} {e f : ET} {lb lo : List ST} {ce cf : List Value} {bv ov : Value} (h : StmtAt F w b p op v e f lb lo ce cf bv ov) : StmtV F w (scells op v ce cf bv ov) (.mk op v e f lb lo) := StmtV.of h.he h.hf h.hb h.ho
structure ExprAt (F : Nat → Prop) (w : World) (b p : Nat) (op v n : Int) (l : List ET) (lv : Value) : Prop where
 whole : w.rangeAt b p [.int .i64 op, .int .i64 v, .int .i64 n, lv]
 cop : w.cell? ⟨b, p + 0, none⟩ = some (.int .i64 op)
 cv : w.cell? ⟨b, p + 1, none⟩ = some (.int .i64 v)
 cn : w.cell? ⟨b, p + 2, none⟩ = some (.int .i64 n)
 cl : w.cell? ⟨b, p + 3, none⟩ = some lv
 hl : ExprsV F w lv l
 inF : F b
theorem exprAt_mk {F : Nat → Prop} {w : World} {b p : Nat} {op v n : Int} {l : List ET} {lv : Value} (h : w.rangeAt b p [.int .i64 op, .int .i64 v, .int .i64 n, lv]) (hF : F b) (hl : ExprsV F w lv l) : ExprAt F w b p op v n l lv :=
 ⟨h, h 0 _ rfl, h 1 _ rfl, h 2 _ rfl, h 3 _ rfl, hl, hF⟩
theorem ExprsV.exprAt {F : Nat → Prop} {w : World} {x : Value} {l : List ET} (h : ExprsV F w x l) {i : Nat} {op v n : Int} {l' : List ET} (ht : l[i]? = some (.mk op v n l')) :
  ∃ b q cap lv, x = .slice (some ⟨b, q, none⟩) l.length cap ∧ ExprAt F w b (q + i * 4) op v n l' lv := by
 obtain ⟨b, q, cap, ci, hv, hF, hra, hci⟩ := h.at ht
 obtain ⟨lv, rfl, hl⟩ := hci.inv
 exact ⟨b, q, cap, lv, hv, exprAt_mk hra hF hl⟩
theorem ExprAt.expr {F : Nat → Prop} {w : World} {b p : Nat} {op v n : Int} {l : List ET} {lv : Value} (h : ExprAt F w b p op v n l lv) : ExprV F w [.int .i64 op, .int .i64 v, .int .i64 n, lv] (.mk op v n l) := ExprV.of h.hl
section
open Go.Proofs
theorem parts_ret (op : Int) (w : World) : Ret Tryz.prog 256 [.int .i64 op] w fun v w' => v = .int .i64 (partsOf op) ∧ w' = w := by
 refine ret_of 20 Tryz.func256 rfl rfl (by simp) ?_
 have h : op < 1 ∨ op > 8 ∨ op = 1 ∨ op = 2 ∨ op = 3 ∨ (4 ≤ op ∧ op ≤ 8) := by omega
 rcases h with h | h | h | h | h | h <;> (refine aub ?_; refine rn_ret Tryz.func256 (.inl ⟨_, rfl, rfl⟩) ⟨?_, rfl⟩; congr 1; (unfold partsOf; repeat' split) <;> omega)
def hasV (op : Int) : Value := .tuple #[.bool (needE op), .bool (needF op), .bool (needV op), .bool (needB op), .bool (needO op)]
theorem has_ret (op : Int) (w : World) : Ret Tryz.prog 221 [.int .i64 op] w fun v w' => v = hasV op ∧ w' = w := by
 refine ret_of 20 Tryz.func221 rfl rfl (by simp) ?_
 have h : op = 1 ∨ op = 2 ∨ op = 3 ∨ op = 4 ∨ op = 5 ∨ op = 6 ∨ (op ≠ 1 ∧ op ≠ 2 ∧ op ≠ 3 ∧ op ≠ 4 ∧ op ≠ 5 ∧ op ≠ 6) := by omega
 rcases h with h | h | h | h | h | h | h
 ·subst h; refine aub ?_; exact rn_ret5 Tryz.func221 rfl rfl rfl rfl rfl rfl ⟨rfl, rfl⟩
 ·subst h; refine aub ?_; exact rn_ret5 Tryz.func221 rfl rfl rfl rfl rfl rfl ⟨rfl, rfl⟩
 ·subst h; refine aub ?_; exact rn_ret5 Tryz.func221 rfl rfl rfl rfl rfl rfl ⟨rfl, rfl⟩
 ·subst h; refine aub ?_; exact rn_ret5 Tryz.func221 rfl rfl rfl rfl rfl rfl ⟨rfl, rfl⟩
 ·subst h; refine aub ?_; exact rn_ret5 Tryz.func221 rfl rfl rfl rfl rfl rfl ⟨rfl, rfl⟩
 ·subst h; refine aub ?_; exact rn_ret5 Tryz.func221 rfl rfl rfl rfl rfl rfl ⟨rfl, rfl⟩
 ·refine aub ?_
  refine rn_ret5 Tryz.func221 rfl rfl rfl rfl rfl rfl ⟨?_, rfl⟩
  simp [hasV, needE, needF, needV, needB, needO, h]
theorem str_at {s : ByteArray} {j : Nat} (h : j < s.size) : s[j]? = some (s.data.toList[j]'(by simpa using h)) := by
 rw [getElem?_pos s j h]
 rfl
theorem all_take_succ {l : List UInt8} {i : Nat} (h : i < l.length) : (l.take (i + 1)).all letter = ((l.take i).all letter && letter l[i]) := by
 rw [List.take_succ_eq_append_getElem h, List.all_append]
 simp only [List.all_cons, List.all_nil, Bool.and_true]
theorem all_take_false {l : List UInt8} {i : Nat} (h : i < l.length) (hl : letter l[i] = false) : l.all letter = false := by
 rw [List.all_eq_false]
 exact ⟨l[i], List.getElem_mem h, by simp [hl]⟩
theorem name_ret (s : ByteArray) (w : World) : Ret Tryz.prog 196 [.string s] w fun v w' => v = .bool (nameOk s) ∧ w' = w := by
 refine ret_of 28 Tryz.func196 rfl rfl (by simp) ?_
 refine au ?_
 refine pl_val _ rfl rfl (val_strLen s (by decide +kernel) rfl rfl w) ?_
 by_cases h1 : s.size < 1
 ·refine aub ?_
  refine rn_ret Tryz.func196 (.inl ⟨_, rfl, rfl⟩) ⟨?_, rfl⟩
  have : ¬ 1 ≤ s.size := by omega
  simp [nameOk, this]
 ·refine aub ?_
  refine pl_val _ rfl rfl (val_strLen s (by decide +kernel) rfl rfl w) ?_
  by_cases h2 : s.size > 8
  ·refine aub ?_
   refine rn_ret Tryz.func196 (.inl ⟨_, rfl, rfl⟩) ⟨?_, rfl⟩
   have : ¬ s.size ≤ 8 := by omega
   simp [nameOk, this]
  ·refine aub ?_
   refine pl_val _ rfl rfl (val_strLen s (by decide +kernel) rfl rfl w) ?_
   refine au ?_
   have hsz : s.data.toList.length = s.size := by simp
   refine rn_ind (fun m σ w' => ∃ i : Nat, i ≤ s.size ∧ m = s.size - i ∧ σ = [(0, .string s), (13, .int .i64 (s.size : Nat)), (14, .int .i64 (i : Nat))] ∧ (s.data.toList.take i).all letter = true ∧ w' = w) s.size _ ?_ ⟨0, by omega, by omega, rfl, by simp, rfl⟩ ?_
   ·exact ⟨rfl, rfl, rfl, trivial⟩
   rintro m σ w2 ih ⟨i, hi, rfl, rfl, hall, rfl⟩
   by_cases hlt : i < s.size
   ·refine aub ?_
    have hat := str_at hlt
    have hs := all_take_succ (l := s.data.toList) (i := i) (by omega)
    have hf := all_take_false (l := s.data.toList) (i := i) (by omega)
    generalize s.data.toList[i]'(by omega) = c at *
    refine pl_val _ rfl rfl (val_strAt s i c (by decide +kernel) rfl rfl rfl rfl hat w2) ?_
    by_cases h3 : c.toNat < 97
    ·refine aub ?_
     refine rn_ret Tryz.func196 (.inl ⟨_, rfl, rfl⟩) ⟨?_, rfl⟩
     rw [nameOk, hf (by simp [letter]; omega)]
     rfl
    ·refine aub ?_
     refine pl_val _ rfl rfl (val_strAt s i c (by decide +kernel) rfl rfl rfl rfl hat w2) ?_
     by_cases h4 : c.toNat > 122
     ·refine aub ?_
      refine rn_ret Tryz.func196 (.inl ⟨_, rfl, rfl⟩) ⟨?_, rfl⟩
      rw [nameOk, hf (by simp [letter]; omega)]
      rfl
     ·refine aub ?_
      refine nM ((i + 1 : Nat) : Int) ?_
      refine au ?_
      refine rn_sub ?_ (ih (s.size - (i + 1)) [(0, .string s), (13, .int .i64 (s.size : Nat)), (14, .int .i64 ((i + 1 : Nat) : Int))] w2 (by omega) ⟨i + 1, by omega, rfl, rfl, ?_, rfl⟩)
      ·exact ⟨rfl, rfl, rfl, trivial⟩
      ·rw [hs, hall]
       simp [letter]
       omega
   ·refine aub ?_
    refine rn_ret Tryz.func196 (.inl ⟨_, rfl, rfl⟩) ⟨?_, rfl⟩
    rw [List.take_of_length_le (by omega)] at hall
    have e1 : 1 ≤ s.size := by omega
    have e2 : s.size ≤ 8 := by omega
    simp only [nameOk, hall, e1, e2, decide_true, Bool.and_self]
theorem zeroE_eq (op v n : Int) (l : List ET) : zeroE (.mk op v n l) = (decide (op = 0) && decide (v = 0) && decide (n = 0) && decide (l.length = 0)) := by
 cases l with
 | nil => simp only [zeroE, List.isEmpty, List.length, decide_true, Bool.and_true]; rfl
 | cons x r => simp [zeroE]
theorem isZero_ret {F : Nat → Prop} {w : World} {cs : List Value} {t : ET} (h : ExprV F w cs t) : Ret Tryz.prog 222 [.agg cs.toArray] w fun v w' => v = .bool (zeroE t) ∧ Keep [] w w' := by
 obtain ⟨op, v, n, l⟩ := t
 obtain ⟨lv, rfl, hl⟩ := h.inv
 obtain ⟨a, cap, rfl⟩ := hl.form
 refine ret_of 22 Tryz.func222 rfl rfl (by simp) ?_
 refine au ?_
 refine pl_op rfl rfl (opTo_box [.int .i64 op, .int .i64 v, .int .i64 n, .slice a l.length cap] rfl rfl rfl ?_)
 have hk0 : Keep [] w (w.alloc (.cells [.int .i64 op, .int .i64 v, .int .i64 n, .slice a l.length cap].toArray 141)) := (Keep.refl _ _).alloc _
 have hb0 : Blk (w.alloc (.cells [.int .i64 op, .int .i64 v, .int .i64 n, .slice a l.length cap].toArray 141)) w.heap.size [.int .i64 op, .int .i64 v, .int .i64 n, .slice a l.length cap] 141 := Blk.new _ _ _
 generalize (w.alloc (.cells [.int .i64 op, .int .i64 v, .int .i64 n, .slice a l.length cap].toArray 141)) = w1 at *
 generalize w.heap.size = b at *
 rw [zeroE_eq]
 by_cases h1 : op = 0
 ·by_cases h2 : v = 0
  ·by_cases h3 : n = 0
   ·by_cases h4 : l.length = 0
    ·refine aub ?_
     exact rn_ret Tryz.func222 (.inl ⟨_, rfl, rfl⟩) ⟨by simp [h1, h2, h3, h4], hk0⟩
    ·refine aub ?_
     exact rn_ret Tryz.func222 (.inl ⟨_, rfl, rfl⟩) ⟨by simp [h1, h2, h3, h4], hk0⟩
   ·refine aub ?_
    exact rn_ret Tryz.func222 (.inl ⟨_, rfl, rfl⟩) ⟨by simp [h1, h2, h3], hk0⟩
  ·refine aub ?_
   exact rn_ret Tryz.func222 (.inl ⟨_, rfl, rfl⟩) ⟨by simp [h1, h2], hk0⟩
 ·refine aub ?_
  exact rn_ret Tryz.func222 (.inl ⟨_, rfl, rfl⟩) ⟨by simp [h1], hk0⟩
end
def knownE (op : Int) : Bool := decide (0 ≤ partsOf op)
def fitsE (op n : Int) (len : Nat) : Bool := decide ((len : Int) = partsOf op) && (op == 1 || n == 0)
def namedE (op : Int) : Bool := op == 2 || op == 3
def knownS (op : Int) : Bool := decide (1 ≤ op) && decide (op ≤ 7)
def fitsS (op : Int) (e f : ET) (lb lo : Nat) : Bool := (((needE op || zeroE e) && (needF op || zeroE f)) && (needB op || (lb : Int) == 0)) && (needO op || (lo : Int) == 0)
def lookK (nv k : Nat) (deep : Int) (known fits named : Bool) (v : Int) : Int :=
 if deep > 12 then 4 else if k + 1 > 150 then 3 else if known = false then 2 else if fits = false then 5 else varK nv v named
theorem look_room {nv k : Nat} {deep : Int} {a b c : Bool} {v : Int} (h : lookK nv k deep a b c v = 0) : k + 1 ≤ 150 ∧ deep ≤ 12 := by
 unfold lookK at h
 split at h
 ·cases h
 ·split at h
  ·cases h
  ·omega
theorem ownE_look (nv : Nat) (op v n : Int) (len : Nat) : ownE nv op v n len = if knownE op = false then 2 else if fitsE op n len = false then 5 else varK nv v (namedE op) := by
 unfold ownE knownE fitsE namedE
 by_cases h1 : partsOf op < 0
 ·have : ¬ 0 ≤ partsOf op := by omega
  simp [h1, this]
 ·have h1' : 0 ≤ partsOf op := by omega
  simp only [h1, if_false, h1', decide_true, Bool.true_eq_false]
  by_cases h2 : (len : Int) = partsOf op
  ·by_cases h3 : op = 1
   ·simp [h2, h3]
   ·by_cases h4 : n = 0
    ·simp [h2, h3, h4]
    ·simp [h2, h3, h4]
  ·have h2' : partsOf op ≠ (len : Int) := fun h => h2 h.symm
   simp [h2, h2']
theorem ownS_look (nv : Nat) (op v : Int) (e f : ET) (lb lo : Nat) : ownS nv op v e f lb lo = if knownS op = false then 2 else if fitsS op e f lb lo = false then 5 else varK nv v (needV op) := by
 unfold ownS knownS fitsS
 by_cases h1 : op < 1 ∨ op > 7
 ·rw [if_pos h1, if_pos]
  simp
  omega
 ·have hk : (decide (1 ≤ op) && decide (op ≤ 7)) = true := by simp; omega
  rw [if_neg h1, hk]
  simp only [Bool.true_eq_false, if_false]
  have e1 : ((lb : Int) == 0) = !decide (0 < lb) := by rw [Bool.eq_iff_iff]; simp
  have e2 : ((lo : Int) == 0) = !decide (0 < lo) := by rw [Bool.eq_iff_iff]; simp
  rw [e1, e2]
  cases needE op <;> cases zeroE e <;> cases needF op <;> cases zeroE f <;> cases needB op <;> cases decide (0 < lb) <;> cases needO op <;> cases decide (0 < lo) <;> rfl
theorem chkE_look (nv deep k : Nat) (op v n : Int) (l : List ET) : chkE nv (.mk op v n l) deep k = if lookK nv k deep (knownE op) (fitsE op n l.length) (namedE op) v ≠ 0 then .error (lookK nv k deep (knownE op) (fitsE op n l.length) (namedE op) v) else chkEs nv l (deep + 1) (k + 1) := by
 simp only [chkE, headK, lookK]
 by_cases h1 : deep > 12
 ·have h1' : (deep : Int) > 12 := by omega
  simp [h1, h1', nextK]
 ·have h1' : ¬ (deep : Int) > 12 := by omega
  by_cases h2 : k + 1 > 150
  ·simp only [h1, h1', h2, if_true, if_false, nextK]
   rfl
  ·simp only [h1, h1', h2, if_false, nextK, ownE_look]
theorem chkS_look (nv deep k : Nat) (op v : Int) (e f : ET) (b o : List ST) : chkS nv (.mk op v e f b o) deep k = if lookK nv k deep (knownS op) (fitsS op e f b.length o.length) (needV op) v ≠ 0 then .error (lookK nv k deep (knownS op) (fitsS op e f b.length o.length) (needV op) v) else
  nextK (if needE op then chkE nv e (deep + 1) (k + 1) else .ok (k + 1)) fun k2 => nextK (if needF op then chkE nv f (deep + 1) k2 else .ok k2) fun k3 => nextK (chkSs nv b (deep + 1) k3) fun k4 => chkSs nv o (deep + 1) k4 := by
 simp only [chkS, headK, lookK]
 by_cases h1 : deep > 12
 ·have h1' : (deep : Int) > 12 := by omega
  simp [h1, h1', nextK]
 ·have h1' : ¬ (deep : Int) > 12 := by omega
  by_cases h2 : k + 1 > 150
  ·simp only [h1, h1', h2, if_true, if_false, nextK]
   rfl
  ·simp only [h1, h1', h2, if_false, nextK, ownS_look]
def els (op : Int) (e f : ET) : List ET := (if needE op then [e] else []) ++ (if needF op then [f] else [])
theorem nextK_assoc (x : Except Int Nat) (f g : Nat → Except Int Nat) : nextK (nextK x f) g = nextK x fun k => nextK (f k) g := by cases x <;> rfl
theorem nextK_one (k : Nat) (f : Nat → Except Int Nat) : nextK (.ok k) f = f k := rfl
theorem nextK_id (x : Except Int Nat) : nextK x (fun k => .ok k) = x := by cases x <;> rfl
theorem chkEs_els (nv : Nat) (op : Int) (e f : ET) (d k : Nat) : chkEs nv (els op e f) d k = nextK (if needE op then chkE nv e d k else .ok k) fun k2 => if needF op then chkE nv f d k2 else .ok k2 := by
 unfold els
 cases needE op <;> cases needF op <;> simp [chkEs, nextK_one, nextK_id]
theorem chkS_parts (nv deep k : Nat) (op v : Int) (e f : ET) (b o : List ST) (h : lookK nv k deep (knownS op) (fitsS op e f b.length o.length) (needV op) v = 0) : chkS nv (.mk op v e f b o) deep k =
  nextK (chkEs nv (els op e f) (deep + 1) (k + 1)) fun k3 => nextK (chkSs nv b (deep + 1) k3) fun k4 => chkSs nv o (deep + 1) k4 := by
 rw [chkS_look, if_neg (by simp [h]), chkEs_els, nextK_assoc]
theorem chkEs_append (nv : Nat) : ∀ (a b : List ET) (d k : Nat), chkEs nv (a ++ b) d k = nextK (chkEs nv a d k) fun k1 => chkEs nv b d k1
 | [], b, d, k => by simp [chkEs, nextK]
 | t :: r, b, d, k => by
  simp only [List.cons_append, chkEs, nextK_assoc]
  congr 1
  funext k1
  exact chkEs_append nv r b d k1
theorem chkSs_append (nv : Nat) : ∀ (a b : List ST) (d k : Nat), chkSs nv (a ++ b) d k = nextK (chkSs nv a d k) fun k1 => chkSs nv b d k1
 | [], b, d, k => by simp [chkSs, nextK]
 | t :: r, b, d, k => by
  simp only [List.cons_append, chkSs, nextK_assoc]
  congr 1
  funext k1
  exact chkSs_append nv r b d k1
theorem chkEs_at {nv d k ki i : Nat} {l : List ET} {t : ET} (ht : l[i]? = some t) (h : chkEs nv (l.take i) d k = .ok ki) :
  chkEs nv (l.take (i + 1)) d k = chkE nv t d ki ∧ ∀ c, chkE nv t d ki = .error c → chkEs nv l d k = .error c := by
 obtain ⟨hlt, e⟩ := List.getElem?_eq_some_iff.1 ht
 refine ⟨?_, fun c hc => ?_⟩
 ·rw [List.take_succ_eq_append_getElem hlt, chkEs_append, h, e]
  simp only [nextK, chkEs]
  exact nextK_id _
 ·have : l = l.take i ++ t :: l.drop (i + 1) := by rw [← e, ← List.drop_eq_getElem_cons hlt, List.take_append_drop]
  rw [this, chkEs_append, h]
  simp only [nextK, chkEs, hc]
theorem chkSs_at {nv d k ki i : Nat} {l : List ST} {t : ST} (ht : l[i]? = some t) (h : chkSs nv (l.take i) d k = .ok ki) :
  chkSs nv (l.take (i + 1)) d k = chkS nv t d ki ∧ ∀ c, chkS nv t d ki = .error c → chkSs nv l d k = .error c := by
 obtain ⟨hlt, e⟩ := List.getElem?_eq_some_iff.1 ht
 refine ⟨?_, fun c hc => ?_⟩
 ·rw [List.take_succ_eq_append_getElem hlt, chkSs_append, h, e]
  simp only [nextK, chkSs]
  exact nextK_id _
 ·have : l = l.take i ++ t :: l.drop (i + 1) := by rw [← e, ← List.drop_eq_getElem_cons hlt, List.take_append_drop]
  rw [this, chkSs_append, h]
  simp only [nextK, chkSs, hc]
def Lid (f : Nat → Except Int Nat) : Prop := ∀ k k', k ≤ 150 → f k = .ok k' → k' ≤ 150
mutual
theorem boundE (nv : Nat) : ∀ t d, Lid (chkE nv t d)
 | .mk op v n l, d => fun k k' hk h => by
  rw [chkE_look] at h
  split at h
  ·cases h
  ·rename_i hz
   have := (look_room (by simpa using hz)).1
   exact boundEs nv l (d + 1) (k + 1) k' this h
theorem boundEs (nv : Nat) : ∀ l d, Lid (chkEs nv l d)
 | [], d => fun k k' hk h => by
  simp only [chkEs] at h
  injection h with h
  omega
 | t :: r, d => fun k k' hk h => by
  simp only [chkEs] at h
  obtain ⟨k1, h1, h2⟩ := nextK_ok h
  exact boundEs nv r d k1 k' (boundE nv t d k k1 hk h1) h2
end
mutual
theorem boundS (nv : Nat) : ∀ t d, Lid (chkS nv t d)
 | .mk op v e f b o, d => fun k k' hk h => by
  by_cases hz : lookK nv k d (knownS op) (fitsS op e f b.length o.length) (needV op) v = 0
  ·rw [chkS_parts _ _ _ _ _ _ _ _ _ hz] at h
   obtain ⟨k1, h1, h2⟩ := nextK_ok h
   obtain ⟨k2, h3, h4⟩ := nextK_ok h2
   have := (look_room hz).1
   exact boundSs nv o (d + 1) k2 k' (boundSs nv b (d + 1) k1 k2 (boundEs nv _ (d + 1) (k + 1) k1 this h1) h3) h4
  ·rw [chkS_look, if_pos hz] at h
   cases h
theorem boundSs (nv : Nat) : ∀ l d, Lid (chkSs nv l d)
 | [], d => fun k k' hk h => by
  simp only [chkSs] at h
  injection h with h
  omega
 | t :: r, d => fun k k' hk h => by
  simp only [chkSs] at h
  obtain ⟨k1, h1, h2⟩ := nextK_ok h
  exact boundSs nv r d k1 k' (boundS nv t d k k1 hk h1) h2
end
section
open Go.Proofs
def partL (deep : Int) (known fits named : Bool) (v : Int) : List Value := [.int .i64 deep, .bool known, .bool fits, .bool named, .int .i64 v]
def partZ : List Value := partL 0 false false false 0
theorem zero_part : ((Tryz.prog.info? 243).bind (·.zero)).map (·.cells) = some partZ.toArray := by kernel_rfl
theorem built_part (d : Int) (a b c : Bool) (v : Int) : Tryz.prog.built 243 [(0, .int .i64 d), (1, .bool a), (2, .bool b), (3, .bool c), (4, .int .i64 v)] = some (partL d a b c v).toArray := by kernel_rfl
theorem part_one (d : Int) (a b c : Bool) (v : Int) : ∀ u ∈ partL d a b c v, u.oneCell' = true := by
 intro u hu
 simp [partL] at hu
 rcases hu with rfl | rfl | rfl | rfl | rfl <;> rfl
theorem exprPart_ret {F : Nat → Prop} {w : World} {op v n : Int} {l : List ET} {lv : Value} (hl : ExprsV F w lv l) (deep : Int) :
  Ret Tryz.prog 223 [.agg #[.int .i64 op, .int .i64 v, .int .i64 n, lv], .int .i64 deep] w fun r w' => r = .agg (partL deep (knownE op) (fitsE op n l.length) (namedE op) v).toArray ∧ Keep [] w w' := by
 obtain ⟨a, cap, rfl⟩ := hl.form
 refine ret_of 38 Tryz.func223 rfl rfl (by simp) ?_
 refine au ?_
 refine pl_op rfl rfl (opTo_boxN [.int .i64 op, .int .i64 v, .int .i64 n, .slice a l.length cap] rfl rfl rfl ?_)
 intro w1 b hb hs1 hk1 hb1
 refine pl_op rfl rfl (opTo_allocN _ rfl zero_part ?_)
 intro w2 c hc hs2 hk2 hc2
 have hb2 := hk2.blk hb1 (by simp)
 refine au ?_
 refine rn_draw (fun w' => Keep [] w2 w' ∧ Blk w' b [.int .i64 op, .int .i64 v, .int .i64 n, .slice a l.length cap] 141) [33] hMix ?_
 have hS : Keep [] w2 w2.drew ∧ Blk w2.drew b [.int .i64 op, .int .i64 v, .int .i64 n, .slice a l.length cap] 141 := ⟨(Keep.refl _ _).drew, hb2.drew⟩
 have hkw : Keep [] w w2.drew := (hk1.tr hk2).drew
 have hc3 := hc2.drew
 have hsz : w.heap.size ≤ c := by have := hk1.size; omega
 generalize w2.drew = w3 at *
 have hlen : (l.length : Int) = partsOf op ∨ (l.length : Int) ≠ partsOf op := by omega
 have hp : op = 1 ∨ op = 2 ∨ (op ≠ 1 ∧ op ≠ 2) := by omega
 clear hk1 hk2 hb1 hc2 hb2
 rcases hp with hp | hp | hp <;> rcases hlen with hlen | hlen
 all_goals
  refine dp 0 ?_
  refine dp 1 ?_
  refine dp 2 ?_
  refine dp 4 ?_
  refine dp 5 ?_
  refine dp 6 ?_
  refine dp 7 ?_
  refine dp 8 ?_
  refine dp 9 ?_
  refine dp 22 ?_
  refine dp 23 ?_
  refine dp 24 ?_
  refine dp 30 ?_
  refine dp 31 ?_
  refine dr_op 3 rfl (by decide +kernel) rfl rfl (opTo_call rfl rfl rfl rfl (by decide +kernel) ((parts_ret op w3).mono ?_))
  rintro v4 w4 ⟨rfl, rfl⟩
  refine ⟨fun _ => hS, ?_⟩
  refine dr_any 4 _ rfl (by decide +kernel) rfl rfl (fun w => val_int _ _ _ _ rfl rfl rfl (by rfl) w) ?_
  refine dr_op 10 rfl (by decide +kernel) rfl rfl (opTo_call rfl rfl rfl rfl (by decide +kernel) ((parts_ret op _).mono ?_))
  rintro v5 w5 ⟨rfl, rfl⟩
  refine ⟨fun _ => hS, ?_⟩
  refine dp 11 ?_
  refine dp 12 ?_
  refine dp 13 ?_
  refine dp 14 ?_
  refine dp 15 ?_
  refine dp 16 ?_
  refine dp 17 ?_
  refine dp 18 ?_
  try (refine dr_any 19 _ rfl (by decide +kernel) rfl rfl (fun w => val_int _ _ _ _ rfl rfl rfl (by rfl) w) ?_)
  refine dp 19 ?_
  refine dp 20 ?_
  refine dp 21 ?_
  refine dp 25 ?_
  refine dp 26 ?_
  refine dp 27 ?_
  try (refine dr_any 28 _ rfl (by decide +kernel) rfl rfl (fun w => val_int _ _ _ _ rfl rfl rfl (by rfl) w) ?_)
  refine dp 28 ?_
  refine dp 29 ?_
  refine dr_any 32 _ rfl (by decide +kernel) rfl rfl (fun w => val_build _ rfl rfl (built_part _ _ _ _ _) w) ?_
  refine dr_op 33 rfl (by decide +kernel) rfl rfl (opTo_storeN _ rfl rfl rfl rfl (by kernel_rfl) hc3 (by simp [partL, partZ]) (part_one _ _ _ _ _) ?_)
  intro w6 hs6 hk6 hc6
  refine ⟨fun h => absurd h (by simp), ?_⟩
  refine dr_done (by decide +kernel) ?_
  rw [splice_whole (by rfl)] at hc6
  refine rn_ret Tryz.func223 (.inr (.inr (.inl ⟨_, _, _, rfl, rfl, blk_loadVar hT hc6 rfl⟩))) ⟨?_, hkw.trB hk6 hsz⟩
  congr 2
  first
   | (subst hp; simp [partL, knownE, fitsE, namedE, hlen]; done)
   | (simp [partL, knownE, fitsE, namedE, hp, hlen]; done)
end
section
open Go.Proofs
theorem stmtPart_ret {F : Nat → Prop} {w : World} {op v : Int} {e f : ET} {lb lo : List ST} {ce cf : List Value} {bv ov : Value} (hF : In F w) (he : ExprV F w ce e) (hf : ExprV F w cf f) (hb : StmtsV F w bv lb) (ho : StmtsV F w ov lo) (deep : Int) :
  Ret Tryz.prog 199 [.agg (scells op v ce cf bv ov).toArray, .int .i64 deep] w fun r w' => r = .agg (partL deep (knownS op) (fitsS op e f lb.length lo.length) (needV op) v).toArray ∧ Keep [] w w' := by
 obtain ⟨e0, e1, e2, e3, rfl⟩ := list4 he.length
 obtain ⟨f0, f1, f2, f3, rfl⟩ := list4 hf.length
 obtain ⟨ab, capb, rfl⟩ := hb.form
 obtain ⟨ao, capo, rfl⟩ := ho.form
 refine ret_of 64 Tryz.func199 rfl rfl (by simp) ?_
 refine au ?_
 refine pl_op rfl rfl (opTo_boxN [.int .i64 op, .int .i64 v, e0, e1, e2, e3, f0, f1, f2, f3, .slice ab lb.length capb, .slice ao lo.length capo] rfl rfl rfl ?_)
 intro w1 b hb0 hs1 hk1 hb1
 refine pl_op rfl rfl (opTo_allocN _ rfl zero_part ?_)
 intro w2 c hc hs2 hk2 hc2
 have hb2 := hk2.blk hb1 (by simp)
 refine lB hb2 ?_
 obtain ⟨be, hbe⟩ : ∃ x, x = needE op := ⟨_, rfl⟩
 obtain ⟨bf, hbf⟩ : ∃ x, x = needF op := ⟨_, rfl⟩
 obtain ⟨bb, hbb⟩ : ∃ x, x = needB op := ⟨_, rfl⟩
 obtain ⟨bo, hbo⟩ : ∃ x, x = needO op := ⟨_, rfl⟩
 have hfit : fitsS op e f lb.length lo.length = ((((be || zeroE e) && (bf || zeroE f)) && (bb || (lb.length : Int) == 0)) && (bo || (lo.length : Int) == 0)) := by rw [hbe, hbf, hbb, hbo]; rfl
 have hR := has_ret op w2
 simp only [hasV, ← hbe, ← hbf, ← hbb, ← hbo] at hR
 refine pl_op rfl rfl (opTo_call rfl rfl rfl rfl (by decide +kernel) (hR.mono ?_))
 rintro v3 w3 ⟨rfl, rfl⟩
 refine au ?_
 refine rn_draw (fun w' => Keep [] w3 w' ∧ Blk w' b [.int .i64 op, .int .i64 v, e0, e1, e2, e3, f0, f1, f2, f3, .slice ab lb.length capb, .slice ao lo.length capo] 143) [45] hMix ?_
 have hS : Keep [] w3 w3.drew ∧ Blk w3.drew b [.int .i64 op, .int .i64 v, e0, e1, e2, e3, f0, f1, f2, f3, .slice ab lb.length capb, .slice ao lo.length capo] 143 := ⟨(Keep.refl _ _).drew, hb2.drew⟩
 have hkw : Keep [] w w3 := hk1.tr hk2
 have hsz : w.heap.size ≤ c := by have := hk1.size; omega
 have he3 := he.keep hkw hF.stays
 have hf3 := hf.keep hkw hF.stays
 have hF3 := hF.keep hkw
 generalize w3.drew = w4 at *
 clear hk1 hk2 hb1 hb2 hR hbe hbf hbb hbo
 rw [hfit]
 clear hfit
 refine dr_with 2 17592186044415 (fun σ' w' => ∃ kn x : Bool, kn = knownS op ∧ x = ((((be || zeroE e) && (bf || zeroE f)) && (bb || (lb.length : Int) == 0)) && (bo || (lo.length : Int) == 0)) ∧ (Keep [] w3 w' ∧ Blk w' b [.int .i64 op, .int .i64 v, e0, e1, e2, e3, f0, f1, f2, f3, .slice ab lb.length capb, .slice ao lo.length capo] 143) ∧ Sub ([(2, .pointer (some ⟨b, 0, none⟩)), (4, .pointer (some ⟨c, 0, none⟩)), (6, .bool bf), (8, .bool bb), (9, .bool bo), (19, .int .i64 deep), (27, .bool kn), (60, .bool (needV op)), (62, .int .i64 v), (59, .bool x)]) σ') ?_ ?_
 ·rintro σ' w5 ⟨kn, x, rfl, hx, hS, hsub⟩
  refine dr_sub hsub ?_
  subst hx
  refine dr_any 44 _ rfl (by decide +kernel) rfl rfl (fun w => val_build _ rfl rfl (built_part _ _ _ _ _) w) ?_
  refine dr_op 45 rfl (by decide +kernel) rfl rfl (opTo_storeN _ rfl rfl rfl rfl (by kernel_rfl) (hS.1.blk hc2 (by simp)) (by simp [partL, partZ]) (part_one _ _ _ _ _) ?_)
  intro w6 hs6 hk6 hc6
  refine ⟨fun h => absurd h (by simp), ?_⟩
  refine dr_done (by decide +kernel) ?_
  rw [splice_whole (by rfl)] at hc6
  exact rn_ret Tryz.func199 (.inr (.inr (.inl ⟨_, _, _, rfl, rfl, blk_loadVar hT hc6 rfl⟩))) ⟨rfl, (hkw.tr hS.1).trB hk6 hsz⟩
 intro fin4
 refine dr_with 10 15401752723455 (fun σ' w' => ∃ kn x : Bool, kn = knownS op ∧ x = (((be || zeroE e) && (bf || zeroE f)) && (bb || (lb.length : Int) == 0)) ∧ (Keep [] w3 w' ∧ Blk w' b [.int .i64 op, .int .i64 v, e0, e1, e2, e3, f0, f1, f2, f3, .slice ab lb.length capb, .slice ao lo.length capo] 143) ∧ Sub ([(2, .pointer (some ⟨b, 0, none⟩)), (4, .pointer (some ⟨c, 0, none⟩)), (6, .bool bf), (8, .bool bb), (9, .bool bo), (19, .int .i64 deep), (27, .bool kn), (60, .bool (needV op)), (62, .int .i64 v), (51, .bool x)]) σ') ?_ ?_
 ·rintro σ' w5 ⟨kn, x, rfl, hx, hS, hsub⟩
  refine dr_sub hsub ?_
  cases x with
  | false =>
   refine dr_not 33 rfl (by decide +kernel) rfl rfl ?_
   refine dr_not 34 rfl (by decide +kernel) rfl rfl ?_
   refine dr_not 35 rfl (by decide +kernel) rfl rfl ?_
   refine dr_not 36 rfl (by decide +kernel) rfl rfl ?_
   refine dr_not 37 rfl (by decide +kernel) rfl rfl ?_
   refine dr_not 38 rfl (by decide +kernel) rfl rfl ?_
   refine dr_not 39 rfl (by decide +kernel) rfl rfl ?_
   refine tk 40 ?_
   exact fin4 _ _ ⟨_, _, rfl, by simp [← hx], hS, rfl, rfl, rfl, rfl, rfl, rfl, rfl, rfl, rfl, rfl, trivial⟩
  | true =>
   refine tk 33 ?_
   refine tk 34 ?_
   cases bo with
   | true =>
    refine dr_not 35 rfl (by decide +kernel) rfl rfl ?_
    refine dr_not 36 rfl (by decide +kernel) rfl rfl ?_
    refine dr_not 37 rfl (by decide +kernel) rfl rfl ?_
    refine dr_not 38 rfl (by decide +kernel) rfl rfl ?_
    refine tk 39 ?_
    refine tk 40 ?_
    exact fin4 _ _ ⟨_, _, rfl, by simp [← hx], hS, rfl, rfl, rfl, rfl, rfl, rfl, rfl, rfl, rfl, rfl, trivial⟩
   | false =>
    refine tk 35 ?_
    refine dr_val 36 _ rfl (by decide +kernel) rfl rfl (fun w9 hS9 => val_load1 hT rfl rfl rfl (Blk.cell hS9.2 (by rfl))) hS ?_
    refine tk 37 ?_
    refine dr_any 38 _ rfl (by decide +kernel) rfl rfl (fun w => val_int _ _ _ _ rfl rfl rfl (by rfl) w) ?_
    refine tk 39 ?_
    refine tk 40 ?_
    exact fin4 _ _ ⟨_, _, rfl, by simp [← hx], hS, rfl, rfl, rfl, rfl, rfl, rfl, rfl, rfl, rfl, rfl, trivial⟩
 intro fin3
 clear fin4
 refine dr_with 19 15393179566079 (fun σ' w' => ∃ kn x : Bool, kn = knownS op ∧ x = ((be || zeroE e) && (bf || zeroE f)) ∧ (Keep [] w3 w' ∧ Blk w' b [.int .i64 op, .int .i64 v, e0, e1, e2, e3, f0, f1, f2, f3, .slice ab lb.length capb, .slice ao lo.length capo] 143) ∧ Sub ([(2, .pointer (some ⟨b, 0, none⟩)), (4, .pointer (some ⟨c, 0, none⟩)), (6, .bool bf), (8, .bool bb), (9, .bool bo), (19, .int .i64 deep), (27, .bool kn), (60, .bool (needV op)), (62, .int .i64 v), (42, .bool x)]) σ') ?_ ?_
 ·rintro σ' w5 ⟨kn, x, rfl, hx, hS, hsub⟩
  refine dr_sub hsub ?_
  cases x with
  | false =>
   refine dr_not 24 rfl (by decide +kernel) rfl rfl ?_
   refine dr_not 25 rfl (by decide +kernel) rfl rfl ?_
   refine dr_not 26 rfl (by decide +kernel) rfl rfl ?_
   refine dr_not 27 rfl (by decide +kernel) rfl rfl ?_
   refine dr_not 28 rfl (by decide +kernel) rfl rfl ?_
   refine dr_not 29 rfl (by decide +kernel) rfl rfl ?_
   refine dr_not 30 rfl (by decide +kernel) rfl rfl ?_
   refine tk 31 ?_
   refine tk 32 ?_
   exact fin3 _ _ ⟨_, _, rfl, by simp [← hx], hS, rfl, rfl, rfl, rfl, rfl, rfl, rfl, rfl, rfl, rfl, trivial⟩
  | true =>
   refine tk 24 ?_
   refine tk 25 ?_
   cases bb with
   | true =>
    refine dr_not 26 rfl (by decide +kernel) rfl rfl ?_
    refine dr_not 27 rfl (by decide +kernel) rfl rfl ?_
    refine dr_not 28 rfl (by decide +kernel) rfl rfl ?_
    refine dr_not 29 rfl (by decide +kernel) rfl rfl ?_
    refine tk 30 ?_
    refine tk 31 ?_
    refine tk 32 ?_
    exact fin3 _ _ ⟨_, _, rfl, by simp [← hx], hS, rfl, rfl, rfl, rfl, rfl, rfl, rfl, rfl, rfl, rfl, trivial⟩
   | false =>
    refine tk 26 ?_
    refine dr_val 27 _ rfl (by decide +kernel) rfl rfl (fun w9 hS9 => val_load1 hT rfl rfl rfl (Blk.cell hS9.2 (by rfl))) hS ?_
    refine tk 28 ?_
    refine dr_any 29 _ rfl (by decide +kernel) rfl rfl (fun w => val_int _ _ _ _ rfl rfl rfl (by rfl) w) ?_
    refine tk 30 ?_
    refine tk 31 ?_
    refine tk 32 ?_
    exact fin3 _ _ ⟨_, _, rfl, by simp [← hx], hS, rfl, rfl, rfl, rfl, rfl, rfl, rfl, rfl, rfl, rfl, trivial⟩
 intro fin2
 clear fin3
 refine dr_with 27 15393162854399 (fun σ' w' => ∃ kn x : Bool, kn = knownS op ∧ x = (be || zeroE e) ∧ (Keep [] w3 w' ∧ Blk w' b [.int .i64 op, .int .i64 v, e0, e1, e2, e3, f0, f1, f2, f3, .slice ab lb.length capb, .slice ao lo.length capo] 143) ∧ Sub ([(2, .pointer (some ⟨b, 0, none⟩)), (4, .pointer (some ⟨c, 0, none⟩)), (6, .bool bf), (8, .bool bb), (9, .bool bo), (19, .int .i64 deep), (27, .bool kn), (60, .bool (needV op)), (62, .int .i64 v), (34, .bool x)]) σ') ?_ ?_
 ·rintro σ' w5 ⟨kn, x, rfl, hx, hS, hsub⟩
  refine dr_sub hsub ?_
  cases x with
  | false =>
   refine dr_not 16 rfl (by decide +kernel) rfl rfl ?_
   refine dr_not 17 rfl (by decide +kernel) rfl rfl ?_
   refine dr_not 18 rfl (by decide +kernel) rfl rfl ?_
   refine dr_not 19 rfl (by decide +kernel) rfl rfl ?_
   refine dr_not 20 rfl (by decide +kernel) rfl rfl ?_
   refine dr_not 21 rfl (by decide +kernel) rfl rfl ?_
   refine tk 22 ?_
   refine tk 23 ?_
   exact fin2 _ _ ⟨_, _, rfl, by simp [← hx], hS, rfl, rfl, rfl, rfl, rfl, rfl, rfl, rfl, rfl, rfl, trivial⟩
  | true =>
   refine tk 16 ?_
   refine tk 17 ?_
   cases bf with
   | true =>
    refine dr_not 18 rfl (by decide +kernel) rfl rfl ?_
    refine dr_not 19 rfl (by decide +kernel) rfl rfl ?_
    refine dr_not 20 rfl (by decide +kernel) rfl rfl ?_
    refine tk 21 ?_
    refine tk 22 ?_
    refine tk 23 ?_
    exact fin2 _ _ ⟨_, _, rfl, by simp [← hx], hS, rfl, rfl, rfl, rfl, rfl, rfl, rfl, rfl, rfl, rfl, trivial⟩
   | false =>
    refine tk 18 ?_
    refine dr_val 19 _ rfl (by decide +kernel) rfl rfl (fun w9 hS9 => val_load [f0, f1, f2, f3] hT rfl rfl rfl (Blk.range hS9.2 (by rfl))) hS ?_
    refine dr_op 20 rfl (by decide +kernel) rfl rfl (opTo_call rfl rfl rfl rfl (by decide +kernel) ((isZero_ret (hf3.keep hS.1 hF3.stays)).mono ?_))
    rintro v6 w6 ⟨rfl, hk6⟩
    replace hS := And.intro (hS.1.tr hk6) (hk6.blk hS.2 (by simp))
    refine ⟨fun _ => hS, ?_⟩
    refine tk 21 ?_
    refine tk 22 ?_
    refine tk 23 ?_
    exact fin2 _ _ ⟨_, _, rfl, by simp [← hx], hS, rfl, rfl, rfl, rfl, rfl, rfl, rfl, rfl, rfl, rfl, trivial⟩
 intro fin1
 clear fin2
 refine dr_with 34 15393162789375 (fun σ' w' => ∃ kn x : Bool, kn = knownS op ∧ x = (true) ∧ (Keep [] w3 w' ∧ Blk w' b [.int .i64 op, .int .i64 v, e0, e1, e2, e3, f0, f1, f2, f3, .slice ab lb.length capb, .slice ao lo.length capo] 143) ∧ Sub ([(2, .pointer (some ⟨b, 0, none⟩)), (4, .pointer (some ⟨c, 0, none⟩)), (6, .bool bf), (8, .bool bb), (9, .bool bo), (19, .int .i64 deep), (27, .bool kn), (60, .bool (needV op)), (62, .int .i64 v), (5, .bool be)]) σ') ?_ ?_
 ·rintro σ' w5 ⟨kn, x, rfl, hx, hS, hsub⟩
  refine dr_sub hsub ?_
  refine tk 9 ?_
  refine tk 10 ?_
  cases be with
  | true =>
   refine dr_not 11 rfl (by decide +kernel) rfl rfl ?_
   refine dr_not 12 rfl (by decide +kernel) rfl rfl ?_
   refine dr_not 13 rfl (by decide +kernel) rfl rfl ?_
   refine tk 14 ?_
   refine tk 15 ?_
   exact fin1 _ _ ⟨_, _, rfl, rfl, hS, rfl, rfl, rfl, rfl, rfl, rfl, rfl, rfl, rfl, rfl, trivial⟩
  | false =>
   refine tk 11 ?_
   refine dr_val 12 _ rfl (by decide +kernel) rfl rfl (fun w9 hS9 => val_load [e0, e1, e2, e3] hT rfl rfl rfl (Blk.range hS9.2 (by rfl))) hS ?_
   refine dr_op 13 rfl (by decide +kernel) rfl rfl (opTo_call rfl rfl rfl rfl (by decide +kernel) ((isZero_ret (he3.keep hS.1 hF3.stays)).mono ?_))
   rintro v6 w6 ⟨rfl, hk6⟩
   replace hS := And.intro (hS.1.tr hk6) (hk6.blk hS.2 (by simp))
   refine ⟨fun _ => hS, ?_⟩
   refine tk 14 ?_
   refine tk 15 ?_
   exact fin1 _ _ ⟨_, _, rfl, rfl, hS, rfl, rfl, rfl, rfl, rfl, rfl, rfl, rfl, rfl, rfl, trivial⟩
 intro fin0
 clear fin1
 refine tk 0 ?_
 refine tk 1 ?_
 refine dr_val 2 _ rfl (by decide +kernel) rfl rfl (fun w9 hS9 => val_load1 hT rfl rfl rfl (Blk.cell hS9.2 (by rfl))) hS ?_
 refine tk 41 ?_
 refine tk 42 ?_
 refine dr_val 43 _ rfl (by decide +kernel) rfl rfl (fun w9 hS9 => val_load1 hT rfl rfl rfl (Blk.cell hS9.2 (by rfl))) hS ?_
 by_cases h1 : op ≥ 1
 ·refine dye 3 ?_
  refine tk 4 ?_
  refine tk 5 ?_
  refine dr_val 6 _ rfl (by decide +kernel) rfl rfl (fun w9 hS9 => val_load1 hT rfl rfl rfl (Blk.cell hS9.2 (by rfl))) hS ?_
  refine dr_any 7 _ rfl (by decide +kernel) rfl rfl (fun w => val_int _ _ _ _ rfl rfl rfl (by rfl) w) ?_
  refine tk 8 ?_
  exact fin0 _ _ ⟨_, true, by simp [knownS]; omega, rfl, hS, rfl, rfl, rfl, rfl, rfl, rfl, rfl, rfl, rfl, rfl, trivial⟩
 ·refine dno 3 ?_
  refine tk 4 ?_
  refine dr_not 5 rfl (by decide +kernel) rfl rfl ?_
  refine dr_not 6 rfl (by decide +kernel) rfl rfl ?_
  refine dr_not 7 rfl (by decide +kernel) rfl rfl ?_
  refine tk 8 ?_
  exact fin0 _ _ ⟨_, true, by simp [knownS]; omega, rfl, hS, rfl, rfl, rfl, rfl, rfl, rfl, rfl, rfl, rfl, rfl, trivial⟩
end
section
open Go.Proofs
theorem app_keep {w0 w w' : World} {e size ln m g : Nat} {v : Value} {xs : List Value} (hk : Keep [] w0 w) (ho : Own w w0.heap.size e size v ln xs)
  (hor : (v.ownBlock = some g ∧ ln + m ≤ capOf v ∧ Keep [g] w w') ∨ (g = w.heap.size ∧ Keep [] w w' ∧ w'.heap.size = w.heap.size + 1)) : Keep [] w0 w' := by
 rcases hor with ⟨h1, _, h2⟩ | ⟨_, h2, _⟩
 ·exact hk.trB h2 (ho.lt g h1).1
 ·exact hk.tr h2
theorem slice_expr (a b c d : Value) : sliceCells Tryz.prog 139 1 [(0, .agg #[a, b, c, d])] = some (141, #[a, b, c, d]) := by kernel_rfl
theorem exprsOf_ret {F : Nat → Prop} {w : World} {op v : Int} {e f : ET} {lb lo : List ST} {ce cf : List Value} {bv ov : Value} (hF : In F w) (he : ExprV F w ce e) (hf : ExprV F w cf f) (hb : StmtsV F w bv lb) (ho : StmtsV F w ov lo) :
  Ret Tryz.prog 201 [.agg (scells op v ce cf bv ov).toArray] w fun r w' => (∃ F' : Nat → Prop, ExprsV F' w' r (els op e f) ∧ ∀ k, F' k → k < w'.heap.size ∧ (F k ∨ w.heap.size ≤ k)) ∧ Keep [] w w' := by
 obtain ⟨e0, e1, e2, e3, rfl⟩ := list4 he.length
 obtain ⟨f0, f1, f2, f3, rfl⟩ := list4 hf.length
 obtain ⟨ab, capb, rfl⟩ := hb.form
 obtain ⟨ao, capo, rfl⟩ := ho.form
 have oe := he.one
 have of := hf.one
 refine ret_of 31 Tryz.func201 rfl rfl (by simp) ?_
 refine au ?_
 refine pl_op rfl rfl (opTo_boxN [.int .i64 op, .int .i64 v, e0, e1, e2, e3, f0, f1, f2, f3, .slice ab lb.length capb, .slice ao lo.length capo] rfl rfl rfl ?_)
 intro w1 b hb0 hs1 hk1 hb1
 refine lB hb1 ?_
 obtain ⟨be, hbe⟩ : ∃ x, x = needE op := ⟨_, rfl⟩
 obtain ⟨bf, hbf⟩ : ∃ x, x = needF op := ⟨_, rfl⟩
 have hR := has_ret op w1
 simp only [hasV, ← hbe, ← hbf] at hR
 refine pl_op rfl rfl (opTo_call rfl rfl rfl rfl (by decide +kernel) (hR.mono ?_))
 rintro v3 w3 ⟨rfl, rfl⟩
 unfold els
 rw [← hbe, ← hbf]
 clear hbe hbf hR
 have hnil : Own w3 w.heap.size 141 4 (.slice none 0 0) ([] : List (List Value)).length ([] : List (List Value)).flatten := Own.nil _ _ _ _
 have fin : ∀ (rv : Value) (w' : World) (ccs : List (List Value)) (l : List ET) (hl : ccs.length = l.length), Own w' w.heap.size 141 4 rv ccs.length ccs.flatten → Keep [] w w' → (∀ i (hi : i < l.length), ExprV F w (ccs.getD i []) (l[i]'hi)) →
   (∃ F' : Nat → Prop, ExprsV F' w' rv l ∧ ∀ k, F' k → k < w'.heap.size ∧ (F k ∨ w.heap.size ≤ k)) ∧ Keep [] w w' := by
  intro rv w' ccs l hl hown hk hc
  refine ⟨⟨_, exprs_of_own (F := F) hown hl fun i hi => (hc i hi).keep hk hF.stays, ?_⟩, hk⟩
  rintro k (h | h)
  ·have := hown.lt k h
   exact ⟨this.2, .inr this.1⟩
  ·exact ⟨Nat.lt_of_lt_of_le (hF k h) hk.size, .inl h⟩
 cases be with
 | false =>
  cases bf with
  | false =>
   refine au ?_
   exact rn_ret Tryz.func201 (.inl ⟨_, rfl, rfl⟩) (fin _ _ [] [] rfl hnil hk1 (fun i hi => by simp at hi))
  | true =>
   refine au ?_
   refine pl_val _ rfl rfl (val_load [f0, f1, f2, f3] hT rfl rfl rfl (hb1.range (by rfl))) ?_
   refine pl_op rfl rfl (opTo_sliceN _ _ rfl rfl (slice_expr f0 f1 f2 f3) ?_)
   intro w4 g4 hg4 hs4 hk4 hx4
   have hn4 := hnil.keep hk4 (by simp)
   refine pl_op rfl rfl (opTo_app w.heap.size 141 4 48 [] [f0, f1, f2, f3] rfl rfl rfl (by decide +kernel) hn4 (hx4.range (by rfl)) rfl of (by decide) (by decide) (by decide) (hk1.tr hk4).size ?_)
   intro g5 cap5 w5 ho5 hor5
   have hk5 := app_keep (hk1.tr hk4) hn4 hor5
   refine au ?_
   exact rn_ret Tryz.func201 (.inl ⟨_, rfl, rfl⟩) (fin _ _ [[f0, f1, f2, f3]] [f] rfl ho5 hk5 (fun i hi => by
    obtain rfl : i = 0 := by simpa using hi
    exact hf))
 | true =>
  refine au ?_
  refine pl_val _ rfl rfl (val_load [e0, e1, e2, e3] hT rfl rfl rfl (hb1.range (by rfl))) ?_
  refine pl_op rfl rfl (opTo_sliceN _ _ rfl rfl (slice_expr e0 e1 e2 e3) ?_)
  intro w4 g4 hg4 hs4 hk4 hx4
  have hn4 := hnil.keep hk4 (by simp)
  have hb4 := hk4.blk hb1 (by simp)
  refine pl_op rfl rfl (opTo_app w.heap.size 141 4 48 [] [e0, e1, e2, e3] rfl rfl rfl (by decide +kernel) hn4 (hx4.range (by rfl)) rfl oe (by decide) (by decide) (by decide) (hk1.tr hk4).size ?_)
  intro g5 cap5 w5 ho5 hor5
  have hk5 := app_keep (hk1.tr hk4) hn4 hor5
  have hb5 : Blk w5 b [.int .i64 op, .int .i64 v, e0, e1, e2, e3, f0, f1, f2, f3, .slice ab lb.length capb, .slice ao lo.length capo] 143 := by
   rcases hor5 with ⟨h, _⟩ | ⟨_, h, _⟩
   ·cases h
   ·exact h.blk hb4 (by simp)
  cases bf with
  | false =>
   refine au ?_
   exact rn_ret Tryz.func201 (.inl ⟨_, rfl, rfl⟩) (fin _ _ [[e0, e1, e2, e3]] [e] rfl ho5 hk5 (fun i hi => by
    obtain rfl : i = 0 := by simpa using hi
    exact he))
  | true =>
   refine au ?_
   refine pl_val _ rfl rfl (val_load [f0, f1, f2, f3] hT rfl rfl rfl (hb5.range (by rfl))) ?_
   refine pl_op rfl rfl (opTo_sliceN _ _ rfl rfl (slice_expr f0 f1 f2 f3) ?_)
   intro w6 g6 hg6 hs6 hk6 hx6
   have hn6 := ho5.keep hk6 (by simp)
   refine pl_op rfl rfl (opTo_app w.heap.size 141 4 48 [e0, e1, e2, e3] [f0, f1, f2, f3] rfl rfl rfl (by decide +kernel) hn6 (hx6.range (by rfl)) rfl of (by decide) (by decide) (by decide) (hk5.tr hk6).size ?_)
   intro g7 cap7 w7 ho7 hor7
   have hk7 := app_keep (hk5.tr hk6) hn6 hor7
   refine au ?_
   exact rn_ret Tryz.func201 (.inl ⟨_, rfl, rfl⟩) (fin _ _ [[e0, e1, e2, e3], [f0, f1, f2, f3]] [e, f] rfl ho7 hk7 (fun i hi => by
    match i, hi with
    | 0, _ => exact he
    | 1, _ => exact hf))
theorem look_ret {w : World} {m pb k nv capv : Nat} {av : Option Addr} {bv : Value} (hm : Blk w m [.int .i64 (k : Nat)] 3) (hp : Blk w pb [.slice av nv capv, bv] 75) (hk : k ≤ 1000) (deep : Int) (kn fi na : Bool) (v : Int) :
  Ret Tryz.prog 168 [.agg (partL deep kn fi na v).toArray, .pointer (some ⟨m, 0, none⟩), .pointer (some ⟨pb, 0, none⟩)] w fun r w' => r = .int .i64 (lookK nv k deep kn fi na v) ∧ Blk w' m [.int .i64 ((k + 1 : Nat) : Int)] 3 ∧ Keep [m] w w' := by
 refine ret_of 47 Tryz.func168 rfl rfl (by simp) ?_
 refine au ?_
 refine pl_op rfl rfl (opTo_boxN (partL deep kn fi na v) rfl rfl rfl ?_)
 intro w1 b hb0 hs1 hk1 hb1
 have hm1 := hk1.blk hm (by simp)
 have hp1 := hk1.blk hp (by simp)
 refine lB hm1 ?_
 refine nM ((k + 1 : Nat) : Int) ?_
 refine pl_op rfl rfl (opTo_storeN _ rfl rfl rfl rfl (by kernel_rfl) hm1 (by simp) (by simp; rfl) ?_)
 intro w2 hs2 hk2 hm2
 have hp2 := hk2.blk hp1 (by simp; exact hp1.ne hm1 (by decide))
 have hb2 := hk2.blk hb1 (by simp; exact hb1.ne hm1 (by decide))
 rw [splice_whole (by rfl)] at hm2
 have hkw : Keep [m] w w2 := (Keep.of0 hk1).tr hk2
 have hmem : Blk w2 m [.int .i64 ((k + 1 : Nat) : Int)] 3 ∧ Keep [m] w w2 := ⟨hm2, hkw⟩
 clear hb1 hm1 hp1 hk1 hk2 hm hp
 unfold partL at hb2
 unfold lookK
 by_cases h1 : deep > 12
 ·refine aub ?_
  exact rn_ret Tryz.func168 (.inl ⟨_, rfl, rfl⟩) ⟨by rw [if_pos h1], hmem⟩
 rw [if_neg h1]
 by_cases h2 : k + 1 > 150
 ·refine aub ?_
  exact rn_ret Tryz.func168 (.inl ⟨_, rfl, rfl⟩) ⟨by rw [if_pos h2], hmem⟩
 rw [if_neg h2]
 cases kn with
 | false =>
  refine aub ?_
  exact rn_ret Tryz.func168 (.inl ⟨_, rfl, rfl⟩) ⟨rfl, hmem⟩
 | true =>
  cases fi with
  | false =>
   refine aub ?_
   exact rn_ret Tryz.func168 (.inl ⟨_, rfl, rfl⟩) ⟨rfl, hmem⟩
  | true =>
   cases na with
   | true =>
    by_cases h3 : v < 0
    ·refine aub ?_
     exact rn_ret Tryz.func168 (.inl ⟨_, rfl, rfl⟩) ⟨by simp [varK, h3], hmem⟩
    ·by_cases h4 : v ≥ (nv : Int)
     ·refine aub ?_
      exact rn_ret Tryz.func168 (.inl ⟨_, rfl, rfl⟩) ⟨by simp [varK, h4], hmem⟩
     ·refine aub ?_
      exact rn_ret Tryz.func168 (.inl ⟨_, rfl, rfl⟩) ⟨by simp [varK, h3, h4], hmem⟩
   | false =>
    by_cases h3 : v = 0
    ·refine aub ?_
     exact rn_ret Tryz.func168 (.inl ⟨_, rfl, rfl⟩) ⟨by simp [varK, h3], hmem⟩
    ·refine aub ?_
     exact rn_ret Tryz.func168 (.inl ⟨_, rfl, rfl⟩) ⟨by simp [varK, h3], hmem⟩
end
section
open Go.Proofs
def exprZ : List Value := [.int .i64 0, .int .i64 0, .int .i64 0, .slice none 0 0]
def stmtZ : List Value := [.int .i64 0, .int .i64 0, .int .i64 0, .int .i64 0, .int .i64 0, .slice none 0 0, .int .i64 0, .int .i64 0, .int .i64 0, .slice none 0 0, .slice none 0 0, .slice none 0 0]
theorem zero_expr : ((Tryz.prog.info? 141).bind (·.zero)).map (·.cells) = some exprZ.toArray := by kernel_rfl
theorem zero_stmt : ((Tryz.prog.info? 143).bind (·.zero)).map (·.cells) = some stmtZ.toArray := by kernel_rfl
structure Meets (w : World) (m pb nv capv k : Nat) (av : Option Addr) (bv : Value) : Prop where
 hm : Blk w m [.int .i64 (k : Nat)] 3
 hp : Blk w pb [.slice av nv capv, bv] 75
theorem Meets.keep {w w' : World} {m pb nv capv k : Nat} {av : Option Addr} {bv : Value} (h : Meets w m pb nv capv k av bv) (hk : Keep [] w w') : Meets w' m pb nv capv k av bv := ⟨hk.blk h.hm (by simp), hk.blk h.hp (by simp)⟩
theorem Meets.turn {w w' : World} {m pb nv capv k k' : Nat} {av : Option Addr} {bv : Value} (h : Meets w m pb nv capv k av bv) (hk : Keep [m] w w') (hm : Blk w' m [.int .i64 (k' : Nat)] 3) : Meets w' m pb nv capv k' av bv :=
 ⟨hm, hk.blk h.hp (by simp; exact h.hp.ne h.hm (by decide))⟩
theorem stays_but {F : Nat → Prop} {w : World} {m : Nat} (hF : In F w) (hm : ¬ F m) : Stays F w [m] := fun k hk => ⟨hF k hk, by simp; rintro rfl; exact hm hk⟩
def Looked (x : Except Int Nat) (m : Nat) (w : World) (r : Value) (w' : World) : Prop :=
 r = .int .i64 (codeOf x) ∧ (∃ k' : Nat, Blk w' m [.int .i64 (k' : Nat)] 3 ∧ ∀ q, x = .ok q → k' = q) ∧ Keep [m] w w'
theorem lookExprs_ret {m pb nv capv : Nat} {av : Option Addr} {bv : Value} : ∀ (s : Nat) (l : List ET), szEs l < s → szEs l ≤ 300000 → ∀ {F : Nat → Prop} {w : World} {x : Value} (deep k : Nat), ExprsV F w x l → In F w → ¬ F m → Meets w m pb nv capv k av bv → deep ≤ 13 → k ≤ 150 →
  Ret Tryz.prog 200 [x, .int .i64 (deep : Nat), .func (.func 168) #[] #[.pointer (some ⟨m, 0, none⟩), .pointer (some ⟨pb, 0, none⟩)]] w (Looked (chkEs nv l deep k) m w) := by
 intro s
 induction s with
 | zero => intro l hl; omega
 | succ s ih =>
  intro l hl hl3 F w x deep k h hF hFm hM hdeep hk
  obtain ⟨a, cap, rfl⟩ := h.form
  have hlen := szEs_len l
  refine ret_of 33 Tryz.func200 rfl rfl (by simp) ?_
  refine au ?_
  refine rn_ind (fun q σ w' => ∃ i ki : Nat, i ≤ l.length ∧ q = l.length - i ∧ σ = [(1, .int .i64 (deep : Nat)), (2, .func (.func 168) #[] #[.pointer (some ⟨m, 0, none⟩), .pointer (some ⟨pb, 0, none⟩)]), (10, .slice a l.length cap), (11, .int .i64 (l.length : Nat)), (12, .int .i64 (i : Nat))] ∧
   chkEs nv (l.take i) deep k = .ok ki ∧ Meets w' m pb nv capv ki av bv ∧ Keep [m] w w') l.length _ ?_ ⟨0, k, by omega, by omega, rfl, by simp [chkEs], hM, Keep.refl _ _⟩ ?_
  ·exact ⟨rfl, rfl, rfl, rfl, rfl, trivial⟩
  rintro q σ w2 ih2 ⟨i, ki, hi, rfl, rfl, hck, hM2, hk2⟩
  have hki := boundEs nv _ _ k ki hk hck
  refine au ?_
  by_cases hlt : i < l.length
  ·refine ye ?_
   refine au ?_
   have hget : l[i]? = some l[i] := List.getElem?_eq_getElem hlt
   have hsz := szEs_at hget
   obtain ⟨op, v, n, l', hs⟩ : ∃ op v n l', l[i] = ET.mk op v n l' := by cases l[i]; exact ⟨_, _, _, _, rfl⟩
   rw [hs] at hget hsz
   simp only [szE] at hsz
   have hch := chkEs_at hget hck
   rw [chkE_look] at hch
   obtain ⟨bb, q, cap', lv, hv, hat⟩ := (h.keep hk2 (stays_but hF hFm)).exprAt hget
   cases hv
   have hF2 := hF.keep hk2
   refine pl_val _ rfl rfl (val_index i hT rfl rfl rfl rfl rfl hlt w2) ?_
   refine pl_val _ rfl rfl (val_load [.int .i64 op, .int .i64 v, .int .i64 n, lv] hT rfl rfl rfl hat.whole) ?_
   refine pl_op rfl rfl (opTo_allocN _ rfl zero_expr ?_)
   intro w3 c hc3 hs3 hk3 hc
   refine pl_op rfl rfl (opTo_storeN _ rfl rfl rfl rfl (by kernel_rfl) hc (by simp [exprZ]) hat.expr.one ?_)
   intro w4 hs4 hk4 hc4
   rw [splice_whole (by rfl)] at hc4
   have hk24 : Keep [] w2 w4 := hk3.trB hk4 (by omega)
   have hl4 := hat.hl.keep hk24 hF2.stays
   have hM4 := hM2.keep hk24
   have hF4 := hF2.keep hk24
   have hkw4 : Keep [m] w w4 := hk2.tr (Keep.of0 hk24)
   clear hk3 hk4 hc hM2 hk2 hat hF2
   refine au ?_
   refine pl_val _ rfl rfl (val_load [.int .i64 op, .int .i64 v, .int .i64 n, lv] hT rfl rfl rfl (hc4.range (by rfl))) ?_
   refine au ?_
   refine pl_op rfl rfl (opTo_call rfl rfl rfl rfl (by decide +kernel) ((exprPart_ret hl4 (deep : Nat)).mono ?_))
   rintro v5 w5 ⟨rfl, hk5⟩
   have hM5 := hM4.keep hk5
   refine pl_op rfl rfl (opTo_call (fst := []) (cap := [.pointer (some ⟨m, 0, none⟩), .pointer (some ⟨pb, 0, none⟩)]) rfl rfl rfl rfl (by decide +kernel) ((look_ret hM5.hm hM5.hp (by omega) (deep : Nat) (knownE op) (fitsE op n l'.length) (namedE op) v).mono ?_))
   rintro v6 w6 ⟨rfl, hm6, hk6⟩
   have hM6 := hM5.turn hk6 hm6
   have hl6 := (hl4.keep hk5 hF4.stays).keep hk6 (stays_but (hF4.keep hk5) hFm)
   have hF6 := (hF4.keep hk5).keep hk6
   have hc6 := hk6.blk (hk5.blk hc4 (by simp)) (by simp; exact (hk5.blk hc4 (by simp)).ne hM5.hm (by decide))
   have hkw6 : Keep [m] w w6 := (hkw4.tr (Keep.of0 hk5)).tr hk6
   clear hk5 hk6 hM4 hM5 hm6 hc4 hl4 hF4 hkw4 hk24
   refine au ?_
   generalize hcd : lookK nv ki (deep : Nat) (knownE op) (fitsE op n l'.length) (namedE op) v = cd at *
   by_cases hz : cd = 0
   ·have hroom := look_room (hcd.trans hz)
    rw [if_neg (by simp [hz])] at hch
    refine ye ?_
    refine lB hc6 ?_
    refine nM ((deep + 1 : Nat) : Int) ?_
    refine au ?_
    refine pl_op rfl rfl (opTo_call rfl rfl rfl rfl (by decide +kernel) ((ih l' (by omega) (by omega) (deep + 1) (ki + 1) hl6 hF6 hFm hM6 (by omega) (by omega)).mono ?_))
    rintro v7 w7 ⟨rfl, ⟨k7, hm7, hq7⟩, hk7⟩
    have hM7 := hM6.turn hk7 hm7
    have hkw7 := hkw6.tr hk7
    refine au ?_
    cases hx : chkEs nv l' (deep + 1) (ki + 1) with
    | error e =>
     have hne := codedEs nv l' (deep + 1) (ki + 1) e hx
     simp only [codeOf]
     refine ye ?_
     refine au ?_
     refine rn_ret Tryz.func200 (.inl ⟨_, rfl, rfl⟩) ?_
     have := hch.2 e hx
     exact ⟨by rw [this]; rfl, ⟨k7, hm7, fun q hq => by rw [this] at hq; cases hq⟩, hkw7⟩
    | ok k8 =>
     simp only [codeOf]
     refine nay ?_
     refine nM ((i + 1 : Nat) : Int) ?_
     refine au ?_
     have e8 := hq7 k8 hx
     subst e8
     refine rn_sub ?_ (ih2 (l.length - (i + 1)) [(1, .int .i64 (deep : Nat)), (2, .func (.func 168) #[] #[.pointer (some ⟨m, 0, none⟩), .pointer (some ⟨pb, 0, none⟩)]), (10, .slice (some ⟨bb, q, none⟩) l.length cap), (11, .int .i64 (l.length : Nat)), (12, .int .i64 ((i + 1 : Nat) : Int))] w7 (by omega)
      ⟨i + 1, k7, by omega, rfl, rfl, by rw [hch.1, hx], hM7, hkw7⟩)
     exact ⟨rfl, rfl, rfl, rfl, rfl, trivial⟩
   ·rw [if_pos hz] at hch
    refine nay ?_
    refine ye ?_
    refine au ?_
    refine rn_ret Tryz.func200 (.inl ⟨_, rfl, rfl⟩) ?_
    have := hch.2 cd rfl
    exact ⟨by rw [this]; rfl, ⟨_, hM6.hm, fun q hq => by rw [this] at hq; cases hq⟩, hkw6⟩
  ·refine nay ?_
   refine au ?_
   refine rn_ret Tryz.func200 (.inl ⟨_, rfl, rfl⟩) ?_
   rw [List.take_of_length_le (by omega)] at hck
   rw [hck]
   exact ⟨rfl, ⟨ki, hM2.hm, fun q hq => by injection hq⟩, hk2⟩
theorem lookStmts_ret {m pb nv capv : Nat} {av : Option Addr} {bv : Value} : ∀ (s : Nat) (l : List ST), szSs l < s → szSs l ≤ 100000 → ∀ {F : Nat → Prop} {w : World} {x : Value} (deep k : Nat), StmtsV F w x l → In F w → ¬ F m → Meets w m pb nv capv k av bv → deep ≤ 13 → k ≤ 150 →
  Ret Tryz.prog 167 [x, .int .i64 (deep : Nat), .func (.func 168) #[] #[.pointer (some ⟨m, 0, none⟩), .pointer (some ⟨pb, 0, none⟩)]] w (Looked (chkSs nv l deep k) m w) := by
 intro s
 induction s with
 | zero => intro l hl; omega
 | succ s ih =>
  intro l hl hl3 F w x deep k h hF hFm hM hdeep hk
  obtain ⟨a, cap, rfl⟩ := h.form
  have hlen := szSs_len l
  refine ret_of 49 Tryz.func167 rfl rfl (by simp) ?_
  refine au ?_
  refine rn_ind (fun q σ w' => ∃ i ki : Nat, i ≤ l.length ∧ q = l.length - i ∧ σ = [(1, .int .i64 (deep : Nat)), (2, .func (.func 168) #[] #[.pointer (some ⟨m, 0, none⟩), .pointer (some ⟨pb, 0, none⟩)]), (10, .slice a l.length cap), (11, .int .i64 (l.length : Nat)), (12, .int .i64 (i : Nat))] ∧
   chkSs nv (l.take i) deep k = .ok ki ∧ Meets w' m pb nv capv ki av bv ∧ Keep [m] w w') l.length _ ?_ ⟨0, k, by omega, by omega, rfl, by simp [chkSs], hM, Keep.refl _ _⟩ ?_
  ·exact ⟨rfl, rfl, rfl, rfl, rfl, trivial⟩
  rintro q σ w2 ih2 ⟨i, ki, hi, rfl, rfl, hck, hM2, hk2⟩
  have hki := boundSs nv _ _ k ki hk hck
  refine au ?_
  by_cases hlt : i < l.length
  ·refine ye ?_
   refine au ?_
   have hget : l[i]? = some l[i] := List.getElem?_eq_getElem hlt
   have hsz := szSs_at hget
   obtain ⟨op, v, e, f, lb, lo, hs⟩ : ∃ op v e f lb lo, l[i] = ST.mk op v e f lb lo := by cases l[i]; exact ⟨_, _, _, _, _, _, rfl⟩
   rw [hs] at hget hsz
   simp only [szS] at hsz
   have hch := chkSs_at hget hck
   obtain ⟨bb, q, cap', ce, cf, bv', ov, hv, hat⟩ := (h.keep hk2 (stays_but hF hFm)).stmtAt hget
   cases hv
   have hF2 := hF.keep hk2
   have h12 : (scells op v ce cf bv' ov).length = 12 := by simp [scells, hat.he.length, hat.hf.length]
   refine pl_val _ rfl rfl (val_index i hT rfl rfl rfl rfl rfl hlt w2) ?_
   refine pl_val _ rfl rfl (val_load (scells op v ce cf bv' ov) hT rfl rfl (by rw [h12]; rfl) hat.whole) ?_
   refine pl_op rfl rfl (opTo_allocN _ rfl zero_stmt ?_)
   intro w3 c hc3 hs3 hk3 hc
   refine pl_op rfl rfl (opTo_storeN _ rfl rfl rfl rfl (by rw [h12]; decide +kernel) hc (by rw [h12]; decide) hat.stmt.one ?_)
   intro w4 hs4 hk4 hc4
   rw [splice_whole (by rw [h12]; rfl)] at hc4
   have hk24 : Keep [] w2 w4 := hk3.trB hk4 (by omega)
   have hat4 := hat.keep hk24 hF2.stays
   have hM4 := hM2.keep hk24
   have hF4 := hF2.keep hk24
   have hkw4 : Keep [m] w w4 := hk2.tr (Keep.of0 hk24)
   clear hk3 hk4 hc hM2 hk2 hat hF2
   refine au ?_
   refine pl_val _ rfl rfl (val_load (scells op v ce cf bv' ov) hT rfl rfl (by rw [h12]; rfl) (hc4.range (by simp))) ?_
   refine au ?_
   refine pl_op rfl rfl (opTo_call rfl rfl rfl rfl (by decide +kernel) ((stmtPart_ret hF4 hat4.he hat4.hf hat4.hb hat4.ho (deep : Nat)).mono ?_))
   rintro v5 w5 ⟨rfl, hk5⟩
   have hM5 := hM4.keep hk5
   refine pl_op rfl rfl (opTo_call (fst := []) (cap := [.pointer (some ⟨m, 0, none⟩), .pointer (some ⟨pb, 0, none⟩)]) rfl rfl rfl rfl (by decide +kernel) ((look_ret hM5.hm hM5.hp (by omega) (deep : Nat) (knownS op) (fitsS op e f lb.length lo.length) (needV op) v).mono ?_))
   rintro v6 w6 ⟨rfl, hm6, hk6⟩
   have hM6 := hM5.turn hk6 hm6
   have hat6 := (hat4.keep hk5 hF4.stays).keep hk6 (stays_but (hF4.keep hk5) hFm)
   have hF6 := (hF4.keep hk5).keep hk6
   have hc6 := hk6.blk (hk5.blk hc4 (by simp)) (by simp; exact (hk5.blk hc4 (by simp)).ne hM5.hm (by decide))
   have hkw6 : Keep [m] w w6 := (hkw4.tr (Keep.of0 hk5)).tr hk6
   clear hk5 hk6 hM4 hM5 hm6 hc4 hat4 hF4 hkw4 hk24
   refine au ?_
   generalize hcd : lookK nv ki (deep : Nat) (knownS op) (fitsS op e f lb.length lo.length) (needV op) v = cd at *
   by_cases hz : cd = 0
   ·have hroom := look_room (hcd.trans hz)
    rw [chkS_parts _ _ _ _ _ _ _ _ _ (hcd.trans hz)] at hch
    refine ye ?_
    refine au ?_
    refine pl_val _ rfl rfl (val_load (scells op v ce cf bv' ov) hT rfl rfl (by rw [h12]; rfl) (hc6.range (by simp))) ?_
    refine pl_op rfl rfl (opTo_call rfl rfl rfl rfl (by decide +kernel) ((exprsOf_ret hF6 hat6.he hat6.hf hat6.hb hat6.ho).mono ?_))
    rintro v7 w7 ⟨⟨F', hes, hF'⟩, hk7⟩
    have hM7 := hM6.keep hk7
    have hat7 := hat6.keep hk7 hF6.stays
    have hF7 := hF6.keep hk7
    have hc7 := hk7.blk hc6 (by simp)
    refine nM ((deep + 1 : Nat) : Int) ?_
    refine au ?_
    have hels : szEs (els op e f) ≤ szE e + szE f := by unfold els; cases needE op <;> cases needF op <;> simp [szEs]
    refine pl_op rfl rfl (opTo_call rfl rfl rfl rfl (by decide +kernel) ((lookExprs_ret _ (els op e f) (Nat.lt_succ_self _) (by omega) (deep + 1) (ki + 1) hes (fun k hk => (hF' k hk).1) (fun h => (hF' m h).2.elim hFm fun h => absurd hM6.hm.lt (by omega)) hM7 (by omega) (by omega)).mono ?_))
    rintro v8 w8 ⟨rfl, ⟨k8, hm8, hq8⟩, hk8⟩
    have hM8 := hM7.turn hk8 hm8
    have hat8 := hat7.keep hk8 (stays_but hF7 hFm)
    have hF8 := hF7.keep hk8
    have hc8 := hk8.blk hc7 (by simp; exact hc7.ne hM7.hm (by decide))
    have hkw8 : Keep [m] w w8 := (hkw6.tr (Keep.of0 hk7)).tr hk8
    clear hk7 hk8 hM6 hM7 hat6 hat7 hF6 hF7 hc6 hc7 hes hF' hkw6
    refine au ?_
    cases hx : chkEs nv (els op e f) (deep + 1) (ki + 1) with
    | error er =>
     have hne := codedEs nv _ (deep + 1) (ki + 1) er hx
     rw [hx] at hch
     simp only [codeOf]
     refine nay ?_
     refine nay ?_
     refine ye ?_
     refine au ?_
     refine rn_ret Tryz.func167 (.inl ⟨_, rfl, rfl⟩) ?_
     have := hch.2 er rfl
     exact ⟨by rw [this]; rfl, ⟨k8, hm8, fun q hq => by rw [this] at hq; cases hq⟩, hkw8⟩
    | ok k8' =>
     have e8 := hq8 k8' hx
     subst e8
     have hb8 := boundEs nv _ _ _ _ (by omega) hx
     rw [hx] at hch
     simp only [nextK] at hch
     simp only [codeOf]
     refine ye ?_
     refine au ?_
     refine pl_val _ rfl rfl (val_load1 hT rfl rfl rfl (hc8.cell (by rw [scells]; obtain ⟨_, _, _, _, rfl⟩ := list4 hat8.he.length; obtain ⟨_, _, _, _, rfl⟩ := list4 hat8.hf.length; rfl))) ?_
     refine nM ((deep + 1 : Nat) : Int) ?_
     refine au ?_
     refine pl_op rfl rfl (opTo_call rfl rfl rfl rfl (by decide +kernel) ((ih lb (by omega) (by omega) (deep + 1) k8 hat8.hb hF8 hFm hM8 (by omega) hb8).mono ?_))
     rintro v9 w9 ⟨rfl, ⟨k9, hm9, hq9⟩, hk9⟩
     have hM9 := hM8.turn hk9 hm9
     have hat9 := hat8.keep hk9 (stays_but hF8 hFm)
     have hF9 := hF8.keep hk9
     have hc9 := hk9.blk hc8 (by simp; exact hc8.ne hM8.hm (by decide))
     have hkw9 : Keep [m] w w9 := hkw8.tr hk9
     refine au ?_
     cases hy : chkSs nv lb (deep + 1) k8 with
     | error er =>
      have hne := codedSs nv _ (deep + 1) k8 er hy
      rw [hy] at hch
      simp only [codeOf]
      refine nay ?_
      refine ye ?_
      refine au ?_
      refine rn_ret Tryz.func167 (.inl ⟨_, rfl, rfl⟩) ?_
      have := hch.2 er rfl
      exact ⟨by rw [this]; rfl, ⟨k9, hm9, fun q hq => by rw [this] at hq; cases hq⟩, hkw9⟩
     | ok k9' =>
      have e9 := hq9 k9' hy
      subst e9
      have hb9 := boundSs nv _ _ _ _ hb8 hy
      rw [hy] at hch
      simp only at hch
      simp only [codeOf]
      refine ye ?_
      refine au ?_
      refine pl_val _ rfl rfl (val_load1 hT rfl rfl rfl (hc9.cell (by rw [scells]; obtain ⟨_, _, _, _, rfl⟩ := list4 hat9.he.length; obtain ⟨_, _, _, _, rfl⟩ := list4 hat9.hf.length; rfl))) ?_
      refine nM ((deep + 1 : Nat) : Int) ?_
      refine au ?_
      refine pl_op rfl rfl (opTo_call rfl rfl rfl rfl (by decide +kernel) ((ih lo (by omega) (by omega) (deep + 1) k9 hat9.ho hF9 hFm hM9 (by omega) hb9).mono ?_))
      rintro v10 w10 ⟨rfl, ⟨k10, hm10, hq10⟩, hk10⟩
      have hM10 := hM9.turn hk10 hm10
      have hkw10 : Keep [m] w w10 := hkw9.tr hk10
      refine au ?_
      cases hu : chkSs nv lo (deep + 1) k9 with
      | error er =>
       have hne := codedSs nv _ (deep + 1) k9 er hu
       simp only [codeOf]
       refine ye ?_
       refine au ?_
       refine rn_ret Tryz.func167 (.inl ⟨_, rfl, rfl⟩) ?_
       have := hch.2 er hu
       exact ⟨by rw [this]; rfl, ⟨k10, hm10, fun q hq => by rw [this] at hq; cases hq⟩, hkw10⟩
      | ok k10' =>
       simp only [codeOf]
       refine nay ?_
       refine nM ((i + 1 : Nat) : Int) ?_
       refine au ?_
       have e10 := hq10 k10' hu
       subst e10
       refine rn_sub ?_ (ih2 (l.length - (i + 1)) [(1, .int .i64 (deep : Nat)), (2, .func (.func 168) #[] #[.pointer (some ⟨m, 0, none⟩), .pointer (some ⟨pb, 0, none⟩)]), (10, .slice (some ⟨bb, q, none⟩) l.length cap), (11, .int .i64 (l.length : Nat)), (12, .int .i64 ((i + 1 : Nat) : Int))] w10 (by omega)
        ⟨i + 1, k10, by omega, rfl, rfl, by rw [hch.1, hu], hM10, hkw10⟩)
       exact ⟨rfl, rfl, rfl, rfl, rfl, trivial⟩
   ·rw [chkS_look, hcd, if_pos hz] at hch
    refine nay ?_
    refine nay ?_
    refine nay ?_
    refine ye ?_
    refine au ?_
    refine rn_ret Tryz.func167 (.inl ⟨_, rfl, rfl⟩) ?_
    have := hch.2 cd rfl
    exact ⟨by rw [this]; rfl, ⟨_, hM6.hm, fun q hq => by rw [this] at hq; cases hq⟩, hkw6⟩
  ·refine nay ?_
   refine au ?_
   refine rn_ret Tryz.func167 (.inl ⟨_, rfl, rfl⟩) ?_
   rw [List.take_of_length_le (by omega)] at hck
   rw [hck]
   exact ⟨rfl, ⟨ki, hM2.hm, fun q hq => by injection hq⟩, hk2⟩
end
section
open Go.Proofs
theorem VarsV.cut {F : Nat → Prop} {w : World} {a : Option Addr} {cap i : Nat} {l : List VarT} (h : VarsV F w (.slice a l.length cap) l) (hi : i ≤ l.length) : VarsV F w (.slice a i cap) (l.take i) := by
 obtain ⟨a', cap', hv, hc, hr⟩ := h
 cases hv
 refine ⟨a, cap, by rw [List.length_take, Nat.min_eq_left hi], by rw [List.length_take]; omega, fun h0 => ?_⟩
 rw [List.length_take, Nat.min_eq_left hi] at h0
 obtain ⟨b, q, ha, hF, hra⟩ := hr (by omega)
 refine ⟨b, q, ha, hF, fun j hj => ?_⟩
 rw [List.length_take, Nat.min_eq_left hi] at hj
 have := hra j (by omega)
 have e : (l.take i).getD j (ByteArray.empty, 0) = l.getD j (ByteArray.empty, 0) := by
  rw [List.getD_eq_getElem?_getD, List.getD_eq_getElem?_getD, List.getElem?_take, if_pos hj]
 show w.rangeAt b (q + j * 2) (vcell ((l.take i).getD j (ByteArray.empty, 0)))
 rw [e]
 exact this
theorem vcell_one (x : VarT) : ∀ u ∈ vcell x, u.oneCell' = true := by
 intro u hu
 simp [vcell] at hu
 rcases hu with rfl | rfl <;> rfl
def varZ : List Value := [.string ⟨#[]⟩, .int .i64 0]
theorem zero_var : ((Tryz.prog.info? 137).bind (·.zero)).map (·.cells) = some varZ.toArray := by kernel_rfl
theorem ahead_ret {w : World} {xb : Nat} {x : VarT} (h : Blk w xb (vcell x) 137) (y : VarT) :
  Ret Tryz.prog 198 [.agg (vcell y).toArray, .pointer (some ⟨xb, 0, none⟩)] w fun r w' => r = .bool (y.1.toList == x.1.toList) ∧ Keep [] w w' := by
 obtain ⟨ys, yz⟩ := y
 obtain ⟨xs, xz⟩ := x
 refine ret_of 9 Tryz.func198 rfl rfl (by simp) ?_
 refine au ?_
 refine pl_op rfl rfl (opTo_boxN [.string ys, .int .i64 yz] rfl rfl rfl ?_)
 intro w1 b hb0 hs1 hk1 hb1
 have h1 := hk1.blk h (by simp)
 unfold vcell at h1
 refine aub ?_
 refine pl_val _ rfl rfl (val_eqStr ys xs _ rfl rfl rfl rfl w1) ?_
 refine au ?_
 exact rn_ret Tryz.func198 (.inl ⟨_, rfl, rfl⟩) ⟨rfl, hk1⟩
def sameName (x y : VarT) : Bool := y.1.toList == x.1.toList
theorem index_ret {F : Nat → Prop} {w : World} {xb : Nat} {x : VarT} {lv : Value} {l : List VarT} (h : VarsV F w lv l) (hF : In F w) (hx : Blk w xb (vcell x) 137) (hl : l.length ≤ 1000) :
  Ret Tryz.prog 220 [lv, .func (.func 198) #[] #[.pointer (some ⟨xb, 0, none⟩)]] w fun r w' => (∃ j : Int, r = .int .i64 j ∧ decide (j ≥ 0) = l.any (sameName x)) ∧ Keep [] w w' := by
 obtain ⟨a, cap, rfl⟩ := h.form
 refine ret_of 19 Tryz.func220 rfl rfl (by simp) ?_
 refine au ?_
 refine rn_ind (fun m σ w' => ∃ i : Nat, i ≤ l.length ∧ m = l.length - i ∧ σ = [(0, .slice a l.length cap), (1, .func (.func 198) #[] #[.pointer (some ⟨xb, 0, none⟩)]), (7, .int .i64 (l.length : Nat)), (8, .int .i64 (i : Nat))] ∧ (l.take i).any (sameName x) = false ∧ Keep [] w w')
  l.length _ ?_ ⟨0, by omega, by omega, rfl, by simp, Keep.refl _ _⟩ ?_
 ·exact ⟨rfl, rfl, rfl, rfl, trivial⟩
 rintro m σ w2 ih ⟨i, hi, rfl, rfl, hany, hk2⟩
 refine au ?_
 by_cases hlt : i < l.length
 ·refine ye ?_
  refine au ?_
  have hget : l[i]? = some l[i] := List.getElem?_eq_getElem hlt
  obtain ⟨bb, q, cap', hv, _, hra⟩ := (h.keep hk2 hF.stays).at hget
  cases hv
  refine pl_val _ rfl rfl (val_index i hT rfl rfl rfl rfl rfl hlt w2) ?_
  refine pl_val _ rfl rfl (val_load (vcell l[i]) hT rfl rfl rfl hra) ?_
  refine pl_op rfl rfl (opTo_call (fst := []) (cap := [.pointer (some ⟨xb, 0, none⟩)]) rfl rfl rfl rfl (by decide +kernel) ((ahead_ret (hk2.blk hx (by simp)) l[i]).mono ?_))
  rintro v3 w3 ⟨rfl, hk3⟩
  have hsu : (l.take (i + 1)).any (sameName x) = sameName x l[i] := by
   rw [List.take_succ_eq_append_getElem hlt, List.any_append, hany]
   simp
  cases hb : (l[i].1.toList == x.1.toList) with
  | true =>
   refine au ?_
   refine rn_ret Tryz.func220 (.inl ⟨_, rfl, rfl⟩) ⟨⟨_, rfl, ?_⟩, hk2.tr hk3⟩
   have : l.any (sameName x) = true := List.any_eq_true.2 ⟨l[i], List.getElem_mem hlt, hb⟩
   rw [this]
   simp
  | false =>
   refine nM ((i + 1 : Nat) : Int) ?_
   refine au ?_
   refine rn_sub ?_ (ih (l.length - (i + 1)) [(0, .slice (some ⟨bb, q, none⟩) l.length cap), (1, .func (.func 198) #[] #[.pointer (some ⟨xb, 0, none⟩)]), (7, .int .i64 (l.length : Nat)), (8, .int .i64 ((i + 1 : Nat) : Int))] w3 (by omega) ⟨i + 1, by omega, rfl, rfl, ?_, hk2.tr hk3⟩)
   ·exact ⟨rfl, rfl, rfl, rfl, trivial⟩
   ·rw [hsu]; exact hb
 ·refine nay ?_
  refine au ?_
  refine rn_ret Tryz.func220 (.inl ⟨_, rfl, rfl⟩) ⟨⟨_, rfl, ?_⟩, hk2⟩
  rw [List.take_of_length_le (by omega)] at hany
  rw [hany]
  rfl
theorem contains_ret {F : Nat → Prop} {w : World} {xb : Nat} {x : VarT} {lv : Value} {l : List VarT} (h : VarsV F w lv l) (hF : In F w) (hx : Blk w xb (vcell x) 137) (hl : l.length ≤ 1000) :
  Ret Tryz.prog 197 [lv, .func (.func 198) #[] #[.pointer (some ⟨xb, 0, none⟩)]] w fun r w' => r = .bool (l.any (sameName x)) ∧ Keep [] w w' := by
 refine ret_of 9 Tryz.func197 rfl rfl (by simp) ?_
 refine au ?_
 refine pl_op rfl rfl (opTo_call rfl rfl rfl rfl (by decide +kernel) ((index_ret h hF hx hl).mono ?_))
 rintro v1 w1 ⟨⟨j, rfl, hj⟩, hk1⟩
 refine pl_val (.bool (l.any (sameName x))) rfl rfl (val_int .i64 _ _ _ rfl rfl rfl (by simp only [intOp, ← hj]) w1) ?_
 refine au ?_
 exact rn_ret Tryz.func197 (.inl ⟨_, rfl, rfl⟩) ⟨rfl, hk1⟩
theorem chkV_at {vs : List VarT} {i : Nat} {x : VarT} (hx : vs[i]? = some x) : chkV ((vs.take i).map (·.1)) (sumV (vs.take i)) (vs.drop i) =
  if nameOk x.1 = false then 8 else if (vs.take i).any (sameName x) = true then 9 else if x.2 < 1 ∨ x.2 > 48 ∨ sumV (vs.take i) + x.2 > 48 then 1 else chkV ((vs.take (i + 1)).map (·.1)) (sumV (vs.take (i + 1))) (vs.drop (i + 1)) := by
 obtain ⟨hlt, e⟩ := List.getElem?_eq_some_iff.1 hx
 rw [List.drop_eq_getElem_cons hlt, e]
 rw [sumV_take_succ hx, List.take_succ_eq_append_getElem hlt, e, List.map_append]
 simp only [chkV, List.any_map, List.map_cons, List.map_nil]
 rfl
theorem checkVars_ret {F : Nat → Prop} {w : World} {x : Value} {vs : List VarT} (h : VarsV F w x vs) (hF : In F w) :
  Ret Tryz.prog 166 [x] w fun r w' => r = .int .i64 (if vs.length > 8 then 3 else chkV [] 0 vs) ∧ Keep [] w w' := by
 obtain ⟨a, cap, rfl⟩ := h.form
 refine ret_of 42 Tryz.func166 rfl rfl (by simp) ?_
 refine au ?_
 by_cases h8 : vs.length > 8
 ·refine ye ?_
  refine au ?_
  exact rn_ret Tryz.func166 (.inl ⟨_, rfl, rfl⟩) ⟨by rw [if_pos h8], Keep.refl _ _⟩
 rw [if_neg h8]
 refine nay ?_
 refine au ?_
 refine rn_ind (fun m σ w' => ∃ i : Nat, i ≤ vs.length ∧ m = vs.length - i ∧ σ = [(0, .slice a vs.length cap), (3, .int .i64 (48 - sumV (vs.take i))), (9, .slice a vs.length cap), (10, .int .i64 (vs.length : Nat)), (11, .int .i64 (i : Nat))] ∧
  chkV [] 0 vs = chkV ((vs.take i).map (·.1)) (sumV (vs.take i)) (vs.drop i) ∧ 0 ≤ sumV (vs.take i) ∧ sumV (vs.take i) ≤ 48 ∧ Keep [] w w') vs.length _ ?_ ⟨0, by omega, by omega, rfl, by simp [sumV], by simp [sumV], by simp [sumV], Keep.refl _ _⟩ ?_
 ·exact ⟨rfl, rfl, rfl, rfl, rfl, trivial⟩
 rintro m σ w2 ih ⟨i, hi, rfl, rfl, hch, hs0, hs1, hk2⟩
 refine au ?_
 by_cases hlt : i < vs.length
 ·refine ye ?_
  refine au ?_
  have hget : vs[i]? = some vs[i] := List.getElem?_eq_getElem hlt
  obtain ⟨nm, sz, hnz⟩ : ∃ nm sz, vs[i] = (nm, sz) := ⟨_, _, rfl⟩
  rw [hnz] at hget
  rw [chkV_at hget] at hch
  have hsu : sumV (vs.take (i + 1)) = sumV (vs.take i) + sz := sumV_take_succ hget
  replace hch : chkV [] 0 vs = if nameOk nm = false then 8 else if (vs.take i).any (sameName (nm, sz)) = true then 9 else if sz < 1 ∨ sz > 48 ∨ sumV (vs.take i) + sz > 48 then 1 else chkV ((vs.take (i + 1)).map (·.1)) (sumV (vs.take (i + 1))) (vs.drop (i + 1)) := hch
  have h2 := h.keep hk2 hF.stays
  have hF2 := hF.keep hk2
  obtain ⟨bb, q, cap', hv, _, hra⟩ := h2.at hget
  cases hv
  refine pl_val _ rfl rfl (val_index i hT rfl rfl rfl rfl rfl hlt w2) ?_
  refine pl_val _ rfl rfl (val_load (vcell (nm, sz)) hT rfl rfl rfl hra) ?_
  refine pl_op rfl rfl (opTo_allocN _ rfl zero_var ?_)
  intro w3 c hc3 hsz3 hk3 hc
  refine au ?_
  refine pl_op rfl rfl (opTo_storeN _ rfl rfl rfl rfl (by kernel_rfl) hc (by simp [vcell, varZ]) (vcell_one _) ?_)
  intro w4 hs4 hk4 hc4
  rw [splice_whole (by rfl)] at hc4
  have hk24 : Keep [] w2 w4 := hk3.trB hk4 (by omega)
  have hkw4 := hk2.tr hk24
  refine lB hc4 ?_
  refine pl_op rfl rfl (opTo_call rfl rfl rfl rfl (by decide +kernel) ((name_ret nm w4).mono ?_))
  rintro v5 w5 ⟨rfl, rfl⟩
  cases hnm : nameOk nm with
  | false =>
   refine au ?_
   exact rn_ret Tryz.func166 (.inl ⟨_, rfl, rfl⟩) ⟨by rw [hch, if_pos hnm], hkw4⟩
  | true =>
   rw [hnm, if_neg (by simp)] at hch
   refine au ?_
   refine pl_val _ rfl rfl (val_sliceTo i hT rfl rfl rfl rfl rfl ?_ w5) ?_
   ·have := h.room; omega
   refine au ?_
   refine pl_op rfl rfl (opTo_call rfl rfl rfl rfl (by decide +kernel) ((contains_ret ((h2.keep hk24 hF2.stays).cut hi) (hF2.keep hk24) hc4 (by rw [List.length_take]; omega)).mono ?_))
   rintro v6 w6 ⟨rfl, hk6⟩
   cases hany : (vs.take i).any (sameName (nm, sz)) with
   | true =>
    refine au ?_
    exact rn_ret Tryz.func166 (.inl ⟨_, rfl, rfl⟩) ⟨by rw [hch, if_pos hany], hkw4.tr hk6⟩
   | false =>
    rw [hany, if_neg (by simp)] at hch
    have hc6 := hk6.blk hc4 (by simp)
    unfold vcell at hc6
    by_cases h1 : sz < 1
    ·refine aub ?_
     exact rn_ret Tryz.func166 (.inl ⟨_, rfl, rfl⟩) ⟨by rw [hch, if_pos (.inl h1)], hkw4.tr hk6⟩
    ·by_cases h3 : sz > 48 - sumV (vs.take i)
     ·refine aub ?_
      exact rn_ret Tryz.func166 (.inl ⟨_, rfl, rfl⟩) ⟨by rw [hch, if_pos (by omega)], hkw4.tr hk6⟩
     ·rw [if_neg (by omega)] at hch
      refine aub ?_
      refine nM (48 - sumV (vs.take (i + 1))) ?_
      refine nM ((i + 1 : Nat) : Int) ?_
      refine au ?_
      refine rn_sub ?_ (ih (vs.length - (i + 1)) [(0, .slice (some ⟨bb, q, none⟩) vs.length cap), (3, .int .i64 (48 - sumV (vs.take (i + 1)))), (9, .slice (some ⟨bb, q, none⟩) vs.length cap), (10, .int .i64 (vs.length : Nat)), (11, .int .i64 ((i + 1 : Nat) : Int))] w6 (by omega)
       ⟨i + 1, by omega, rfl, rfl, hch, by omega, by omega, hkw4.tr hk6⟩)
      exact ⟨rfl, rfl, rfl, rfl, rfl, trivial⟩
 ·refine nay ?_
  refine au ?_
  refine rn_ret Tryz.func166 (.inl ⟨_, rfl, rfl⟩) ⟨?_, hk2⟩
  rw [hch, List.drop_eq_nil_of_le (by omega)]
  rfl
end
section
open Go.Proofs
theorem zero_int : ((Tryz.prog.info? 3).bind (·.zero)).map (·.cells) = some [Value.int .i64 0].toArray := by kernel_rfl
theorem check_ret {F : Nat → Prop} {w : World} {x : Value} {vs : List VarT} {body : List ST} (h : ProgV F w x vs body) (hF : In F w) (hsz : szSs body ≤ 100000) :
  Ret Tryz.prog 130 [x] w fun r w' => r = .int .i64 (progFault vs body) ∧ Keep [] w w' := by
 obtain ⟨vv, bv, rfl, hv, hb⟩ := h
 obtain ⟨av, capv, rfl⟩ := hv.form
 obtain ⟨ab, capb, rfl⟩ := hb.form
 refine ret_of 15 Tryz.func130 rfl rfl (by simp) ?_
 refine au ?_
 refine pl_op rfl rfl (opTo_boxN [.slice av vs.length capv, .slice ab body.length capb] rfl rfl rfl ?_)
 intro w1 pb hpb hs1 hk1 hb1
 refine lB hb1 ?_
 refine pl_op rfl rfl (opTo_call rfl rfl rfl rfl (by decide +kernel) ((checkVars_ret (hv.keep hk1 hF.stays) (hF.keep hk1)).mono ?_))
 rintro v2 w2 ⟨rfl, hk2⟩
 have hkw2 := hk1.tr hk2
 refine au ?_
 unfold progFault
 by_cases h8 : vs.length > 8
 ·rw [if_pos h8, if_pos h8]
  refine ye ?_
  refine au ?_
  exact rn_ret Tryz.func130 (.inl ⟨_, rfl, rfl⟩) ⟨rfl, hkw2⟩
 rw [if_neg h8, if_neg h8]
 generalize chkV [] 0 vs = cd
 by_cases hz : cd = 0
 ·subst hz
  rw [if_neg (by simp)]
  refine nay ?_
  refine au ?_
  refine pl_op rfl rfl (opTo_allocN _ rfl zero_int ?_)
  intro w3 m hm3 hs3 hk3 hm
  refine pl_op rfl rfl (opTo_storeN _ rfl rfl rfl rfl (by kernel_rfl) hm (by simp) (by simp; rfl) ?_)
  intro w4 hs4 hk4 hm4
  rw [splice_whole (by rfl)] at hm4
  have hkw4 : Keep [] w w4 := (hkw2.tr hk3).trB hk4 (by have := hkw2.size; omega)
  have hp4 := hk4.blk (hk3.blk (hk2.blk hb1 (by simp)) (by simp)) (by simp; have := (hk2.blk hb1 (by simp)).lt; omega)
  refine lB hp4 ?_
  refine au ?_
  refine pl_op rfl rfl (opTo_call rfl rfl rfl rfl (by decide +kernel) ((lookStmts_ret _ body (Nat.lt_succ_self _) hsz 0 0 (hb.keep hkw4 hF.stays) (hF.keep hkw4) (fun h => by have := hF m h; have := hkw2.size; omega) ⟨hm4, hp4⟩ (by omega) (by omega)).mono ?_))
  rintro v5 w5 ⟨rfl, _, hk5⟩
  refine au ?_
  exact rn_ret Tryz.func130 (.inl ⟨_, rfl, rfl⟩) ⟨rfl, hkw4.trB hk5 (by have := hkw2.size; omega)⟩
 ·rw [if_pos hz]
  refine ye ?_
  refine au ?_
  exact rn_ret Tryz.func130 (.inl ⟨_, rfl, rfl⟩) ⟨rfl, hkw2⟩
theorem val_min {P : Program} {n : Nat} {σ : Env} {o : Oper} {x y : Operand} {t t' : TypeId} {a b : Int} (r : Int) (ho : o.op = .call { callee := .builtin .min, args := #[x, y], argTypes := #[t, t'] }) (hx : ev σ x = some (.int .i64 a)) (hy : ev σ y = some (.int .i64 b)) (hr : min a b = r) (w : World) : Val P n σ o w (.int .i64 r) := by
 intro ac ha
 subst hr
 have e : (if b < a then b else a) = min a b := by
  split <;> omega
 simp [execOp, ho, resolve, invoke, builtin, Builtin.min_, Builtin.min2, ha.eval hx, ha.eval hy, e]
def Sized (vs : List VarT) : Prop := vs.length ≤ 30 ∧ ∀ x ∈ vs, 0 ≤ x.2 ∧ x.2 ≤ 1000
theorem Sized.sum {vs : List VarT} (h : Sized vs) (i : Nat) (hi : i ≤ vs.length) : 0 ≤ sumV (vs.take i) ∧ sumV (vs.take i) ≤ 1000 * (i : Int) := by
 induction i with
 | zero => simp [sumV]
 | succ i ih =>
  obtain ⟨h1, h2⟩ := ih (by omega)
  have hget : vs[i]? = some vs[i] := List.getElem?_eq_getElem (by omega)
  have h3 := h.2 vs[i] (List.getElem_mem _)
  rw [sumV_take_succ hget]
  omega
theorem cell_ret {F : Nat → Prop} {w : World} {x : Value} {vs : List VarT} {body : List ST} (h : ProgV F w x vs body) (hF : In F w) (hs : Sized vs) (v : Int) :
  Ret Tryz.prog 172 [x, .int .i64 v] w fun r w' => r = .int .i64 (cellOf vs v) ∧ Keep [] w w' := by
 obtain ⟨vv, bv, rfl, hv, hb⟩ := h
 obtain ⟨av, capv, rfl⟩ := hv.form
 obtain ⟨ab, capb, rfl⟩ := hb.form
 have hl30 := hs.1
 refine ret_of 25 Tryz.func172 rfl rfl (by simp) ?_
 refine au ?_
 refine pl_op rfl rfl (opTo_boxN [.slice av vs.length capv, .slice ab body.length capb] rfl rfl rfl ?_)
 intro w1 pb hpb hs1 hk1 hb1
 refine lB hb1 ?_
 refine au ?_
 refine pl_val _ rfl rfl (val_min (min v (vs.length : Nat)) rfl rfl rfl rfl w1) ?_
 refine au ?_
 refine rn_ind (fun q σ w' => ∃ i : Nat, i ≤ vs.length ∧ ((i : Int) ≤ v ∨ i = 0) ∧ q = vs.length - i ∧ σ = [(2, .pointer (some ⟨pb, 0, none⟩)), (5, .int .i64 (sumV (vs.take i))), (11, .int .i64 (min v (vs.length : Nat))), (12, .int .i64 (i : Nat))] ∧ w' = w1) vs.length _ ?_ ⟨0, by omega, by omega, by omega, rfl, rfl⟩ ?_
 ·exact ⟨rfl, rfl, rfl, rfl, trivial⟩
 rintro q σ w2 ih ⟨i, hi, hiv, rfl, rfl, rfl⟩
 refine au ?_
 by_cases hlt : (i : Int) < min v (vs.length : Nat)
 ·refine ye ?_
  refine lB hb1 ?_
  refine au ?_
  have hl : i < vs.length := by omega
  have hget : vs[i]? = some vs[i] := List.getElem?_eq_getElem hl
  have hsu := sumV_take_succ hget
  have hb2 := hs.sum (i + 1) (by omega)
  obtain ⟨bb, q, cap', hv', _, hra⟩ := (hv.keep hk1 hF.stays).at hget
  cases hv'
  refine pl_val _ rfl rfl (val_index i hT rfl rfl rfl rfl rfl hl w2) ?_
  refine au ?_
  refine pl_val _ rfl rfl (val_load1 hT rfl rfl rfl (hra 1 (.int .i64 vs[i].2) rfl)) ?_
  refine nM (sumV (vs.take (i + 1))) ?_
  refine nM ((i + 1 : Nat) : Int) ?_
  refine au ?_
  refine rn_sub ?_ (ih (vs.length - (i + 1)) [(2, .pointer (some ⟨pb, 0, none⟩)), (5, .int .i64 (sumV (vs.take (i + 1)))), (11, .int .i64 (min v (vs.length : Nat))), (12, .int .i64 ((i + 1 : Nat) : Int))] w2 (by omega) ⟨i + 1, by omega, by omega, rfl, rfl, rfl⟩)
  exact ⟨rfl, rfl, rfl, rfl, trivial⟩
 ·refine nay ?_
  refine au ?_
  refine rn_ret Tryz.func172 (.inl ⟨_, rfl, rfl⟩) ⟨?_, hk1⟩
  unfold cellOf
  rcases Nat.lt_or_ge i vs.length with h' | h'
  ·rw [show v.toNat = i by omega]
  ·rw [List.take_of_length_le (by omega), List.take_of_length_le (by omega)]
theorem cells_ret {F : Nat → Prop} {w : World} {x : Value} {vs : List VarT} {body : List ST} (h : ProgV F w x vs body) (hF : In F w) (hs : Sized vs) :
  Ret Tryz.prog 135 [x] w fun r w' => r = .int .i64 (cellOf vs (vs.length : Nat)) ∧ Keep [] w w' := by
 obtain ⟨vv, bv, rfl, hv, hb⟩ := h
 obtain ⟨av, capv, rfl⟩ := hv.form
 obtain ⟨ab, capb, rfl⟩ := hb.form
 refine ret_of 8 Tryz.func135 rfl rfl (by simp) ?_
 refine au ?_
 refine pl_op rfl rfl (opTo_boxN [.slice av vs.length capv, .slice ab body.length capb] rfl rfl rfl ?_)
 intro w1 pb hpb hs1 hk1 hb1
 refine au ?_
 refine pl_val _ rfl rfl (val_load [.slice av vs.length capv, .slice ab body.length capb] hT rfl rfl rfl (hb1.range (by rfl))) ?_
 refine lB hb1 ?_
 refine au ?_
 refine pl_op rfl rfl (opTo_call rfl rfl rfl rfl (by decide +kernel) ((cell_ret (F := F) ⟨_, _, rfl, hv.keep hk1 hF.stays, hb.keep hk1 hF.stays⟩ (hF.keep hk1) hs (vs.length : Nat)).mono ?_))
 rintro v2 w2 ⟨rfl, hk2⟩
 refine au ?_
 exact rn_ret Tryz.func135 (.inl ⟨_, rfl, rfl⟩) ⟨rfl, hk1.tr hk2⟩
end
section
open Go.Proofs
theorem LsV.at {w : World} {v : Value} {l : List Int} (h : LsV w v l) {i : Nat} {x : Int} (hx : l[i]? = some x) : ∃ b q cap, v = .slice (some ⟨b, q, none⟩) l.length cap ∧ b < w.heap.size ∧ w.rangeAt b (q + i) [.int .i64 x] := by
 obtain ⟨a, cap, h1, h2⟩ := h
 have hi := (List.getElem?_eq_some_iff.1 hx).1
 obtain ⟨b, q, h3, h4, h5⟩ := h2 (by omega)
 refine ⟨b, q, cap, by rw [h1, h3], h4, fun j u hu => ?_⟩
 have hj : j = 0 := by have := (List.getElem?_eq_some_iff.1 hu).1; simp at this; omega
 subst hj
 have : u = .int .i64 x := by simpa using hu.symm
 subst this
 exact h5 i _ (lgs_at hx)
structure Prg (c : Nat) (Q : List Is) : Prop where
 sim : Sim c 0 Q 0
 jmp : Jmps c 0 Q
 ops : ∀ x ∈ Q, 1 ≤ x.1 ∧ x.1 ≤ 15
 cells : c ≤ 1000
 len : Q.length ≤ 100000
theorem Sim.le {c : Int} {n m : Nat} {l : List Is} (h : Sim c n l m) (hn : n ≤ 24) : m ≤ 24 := by
 induction h with
 | nil => exact hn
 | cons hx _ ih => exact ih hx.room
end
section
open Go.Proofs
structure MkC : Prop where
 make : ∀ {F : Nat → Prop} {w : World} {x : Value} {vs : List VarT} {body : List ST}, ProgV F w x vs body → In F w → vs.length ≤ 100000 → szSs body ≤ 100000 →
  Ret Tryz.prog 132 [x] w fun r w' => (∃ v, r = .tuple #[v, .int .i64 (progFault vs body)] ∧ InsV (fun c => w.heap.size ≤ c ∧ c < w'.heap.size) w' v (makeOf vs body)) ∧ Keep [] w w'
theorem prog_fit {vs : List VarT} {body : List ST} (h : progFault vs body = 0) : Sized vs ∧ Big vs ∧ gdSs vs.length body ∧ 0 ≤ sumV vs ∧ sumV vs ≤ 48 := by
 obtain ⟨h8, hv, k, hc⟩ := progFault_ok h
 obtain ⟨h1, h2⟩ := chkV_sizes hv
 have h3 : Big vs := fun x hx => (h1 x hx).1
 exact ⟨⟨by omega, fun x hx => by have := h1 x hx; omega⟩, h3, chkSs_gd body hc, sumV_big h3, by omega⟩
end
section
open Go.Proofs
mutual
theorem ops_E {vs : List VarT} : ∀ (t : ET) {d k k' : Nat}, chkE vs.length t d k = .ok k' → ∀ x ∈ insE vs t, 1 ≤ x.1 ∧ x.1 ≤ 15
 | .mk op v m l, d, k, k', h, x, hx => by
  obtain ⟨hd, h1, k1, h2⟩ := chkE_inv h
  obtain ⟨a1, a2, _⟩ := ownE_inv h1
  simp only [insE, List.mem_append, List.mem_singleton] at hx
  rcases hx with hx | rfl
  ·exact ops_Es l h2 x hx
  ·exact ⟨a1, by show op ≤ 15; omega⟩
theorem ops_Es {vs : List VarT} : ∀ (l : List ET) {d k k' : Nat}, chkEs vs.length l d k = .ok k' → ∀ x ∈ insEs vs l, 1 ≤ x.1 ∧ x.1 ≤ 15
 | [], _, _, _, _, x, hx => by simp [insEs] at hx
 | t :: r, d, k, k', h, x, hx => by
  obtain ⟨⟨k1, h1⟩, k2, h2⟩ := chkEs_inv h
  simp only [insEs, List.mem_append] at hx
  rcases hx with hx | hx
  ·exact ops_E t h1 x hx
  ·exact ops_Es r h2 x hx
end
mutual
theorem ops_S {vs : List VarT} : ∀ (t : ST) {d k k' : Nat}, chkS vs.length t d k = .ok k' → ∀ (i0 : Nat), ∀ x ∈ insS vs t i0, 1 ≤ x.1 ∧ x.1 ≤ 15
 | .mk op v e f b o, d, k, k', h, i0, x, hx => by
  obtain ⟨hd, h1, h2, h3, ⟨k1, k2, h4⟩, k3, k4, h5⟩ := chkS_inv h
  have ne : ∀ x ∈ eI vs op e, 1 ≤ x.1 ∧ x.1 ≤ 15 := by
   unfold eI
   split
   ·rename_i hn
    obtain ⟨_, _, hc⟩ := h2 hn
    exact ops_E e hc
   ·simp
  have nf : ∀ x ∈ fI vs op f, 1 ≤ x.1 ∧ x.1 ≤ 15 := by
   unfold fI
   split
   ·rename_i hn
    obtain ⟨_, _, hc⟩ := h3 hn
    exact ops_E f hc
   ·simp
  have jb := fun i => ops_Ss b h4 i
  have jo := fun i => ops_Ss o h5 i
  simp only [insS] at hx
  split at hx
  ·simp only [whileI, List.mem_append, List.mem_cons, List.not_mem_nil, or_false] at hx
   rcases hx with hx | rfl | hx | rfl
   ·exact ne x hx
   ·exact ⟨by show (1 : Int) ≤ 13; decide, by show (13 : Int) ≤ 15; decide⟩
   ·exact jb _ x hx
   ·exact ⟨by show (1 : Int) ≤ 14; decide, by show (14 : Int) ≤ 15; decide⟩
  ·split at hx
   ·simp only [ifI, List.mem_append, List.mem_cons] at hx
    rcases hx with hx | rfl | hx | rfl | hx
    ·exact ne x hx
    ·exact ⟨by show (1 : Int) ≤ 13; decide, by show (13 : Int) ≤ 15; decide⟩
    ·exact jb _ x hx
    ·exact ⟨by show (1 : Int) ≤ 14; decide, by show (14 : Int) ≤ 15; decide⟩
    ·exact jo _ x hx
   ·simp only [List.mem_append, List.mem_singleton] at hx
    rcases hx with hx | hx | rfl
    ·exact ne x hx
    ·exact nf x hx
    ·unfold lastI
     (repeat' split) <;> simp
theorem ops_Ss {vs : List VarT} : ∀ (l : List ST) {d k k' : Nat}, chkSs vs.length l d k = .ok k' → ∀ (i0 : Nat), ∀ x ∈ insSs vs l i0, 1 ≤ x.1 ∧ x.1 ≤ 15
 | [], _, _, _, _, _, x, hx => by simp [insSs] at hx
 | t :: r, d, k, k', h, i0, x, hx => by
  obtain ⟨⟨k1, h1⟩, k2, h2⟩ := chkSs_inv h
  simp only [insSs, List.mem_append] at hx
  rcases hx with hx | hx
  ·exact ops_S t h1 i0 x hx
  ·exact ops_Ss r h2 _ x hx
end
theorem prog_prg {vs : List VarT} {body : List ST} (h : progFault vs body = 0) (hsz : szSs body ≤ 1000) : ∃ c : Nat, (c : Int) = sumV vs ∧ c ≤ 48 ∧ Prg c (insSs vs body 0) := by
 obtain ⟨_, hbig, _, h0, h48⟩ := prog_fit h
 obtain ⟨_, _, k, hc⟩ := progFault_ok h
 have e : ((sumV vs).toNat : Int) = sumV vs := by omega
 have hl := insSs_len vs body 0
 exact ⟨(sumV vs).toNat, e, by omega, by rw [e]; exact sim_Ss hbig body hc 0, by rw [e]; exact jmp_Ss hbig body hc 0, ops_Ss body hc 0, by omega, by omega⟩
def codeB (m : Md) (p : Pr) : Int := if p.2 then 15 else if m.state = 0 then 13 else if m.state > 1 then (m.state : Int) - 2 else 0
def resC (c : Int) (o l : Value) : List Value := [.int .i64 c, o, l]
theorem zero_re : ((Tryz.prog.info? 81).bind (·.zero)).map (·.cells) = some (resC 0 (.slice none 0 0) (.slice none 0 0)).toArray := by kernel_rfl
theorem size_re : sizeOk Tryz.prog 81 3 = true := by kernel_rfl
theorem resC_one (c : Int) (a b : Option Addr) (n k m d : Nat) : ∀ u ∈ resC c (.slice a n k) (.slice b m d), u.oneCell' = true := by
 intro u hu
 simp only [resC, List.mem_cons, List.not_mem_nil, or_false] at hu
 rcases hu with rfl | rfl | rfl <;> rfl
end
section
open Go.Proofs
structure Told where
 code : Int
 out : List Int
 cells : List Int
 used : Int
 fault : Int
def toldX (r : Nat × List Int × List Int × Nat) : Told := ⟨r.1, r.2.1, r.2.2.1, r.2.2.2, 0⟩
def saysX (vs : List VarT) (body : List ST) (inp : List Int) (fuel : Nat) : Ex Es := evP vs inp fuel body (es0 (sumV vs).toNat)
def runI (vs : List VarT) (body : List ST) (inp : List Int) (fuel : Int) : Told :=
 if progFault vs body = 0 then (if inp.length ≤ 40 ∧ 0 ≤ fuel ∧ fuel ≤ 3000 then toldX (resX (saysX vs body inp fuel.toNat)) else ⟨0, [], [], 0, 1⟩) else ⟨0, [], [], 0, progFault vs body⟩
def LsC (w : World) (v : Value) (l : List Int) : Prop := LsV w v l ∧ ∀ a n cap, v = .slice a n cap → n ≤ cap
def Nw (w : World) (v : Value) : Prop := ∀ b q n c, v = .slice (some ⟨b, q, none⟩) n c → 0 < n → w.heap.size ≤ b
structure IdC : Prop where
 run : ∀ {F : Nat → Prop} {w : World} {x iv : Value} {vs : List VarT} {body : List ST} {inp : List Int} (fuel : Int), ProgV F w x vs body → In F w → LsC w iv inp → vs.length ≤ 100000 → szSs body ≤ 1000 → inp.length ≤ 100000 →
  Ret Tryz.prog 100 [x, iv, .int .i64 fuel] w fun r w' => (∃ ov cv, r = .tuple #[.agg (resC (runI vs body inp fuel).code ov cv).toArray, .int .i64 (runI vs body inp fuel).used, .int .i64 (runI vs body inp fuel).fault] ∧ LsC w' ov (runI vs body inp fuel).out ∧ LsV w' cv (runI vs body inp fuel).cells ∧ Nw w ov ∧ Nw w cv) ∧ Keep [] w w'
theorem says_at {vs : List VarT} {body : List ST} (h : progFault vs body = 0) (hsz : szSs body ≤ 1000) (inp : List Int) (fuel : Nat) :
  ∃ n m out, n ≤ fuel ∧ pu (insP vs body) inp (sumV vs).toNat n = (m, (out, false)) ∧ (∀ k < n, (pu (insP vs body) inp (sumV vs).toNat k).1.state = 0) ∧ (n = fuel ∨ m.state ≠ 0) ∧ m.state ≤ 14 ∧ m.cells.length ≤ 48 ∧ out.length ≤ n ∧
   resX (saysX vs body inp fuel) = (if m.state = 0 then 13 else if m.state = 1 then 0 else m.state - 2, out, m.cells, n) := by
 obtain ⟨n, m, out, h1, ⟨h2, h3⟩, h4, h5⟩ := runP h inp fuel (sumV vs).toNat
 have h2 : pu (insP vs body) inp (sumV vs).toNat n = (m, (out, false)) := h2
 obtain ⟨c, hc, h48, hP⟩ := prog_prg h hsz
 have hcc : c = (sumV vs).toNat := by omega
 have hf := pu_fit (inp := inp) hP.sim hP.jmp n
 rw [hcc, show insSs vs body 0 ++ [haltI] = insP vs body from rfl, h2] at hf
 obtain ⟨b1, b2, b3⟩ := pu_bounds (W := insP vs body) (inp := inp) (c := (sumV vs).toNat) n
 rw [h2] at b2 b3
 have hcl := hf.cells
 exact ⟨n, m, out, h1, h2, h3, h4, b3, by have : (m.cells.length : Int) = ((sumV vs).toNat : Int) := hcl; omega, b2, h5⟩
theorem runI_bnd {vs : List VarT} {body : List ST} (hsz : szSs body ≤ 1000) (inp : List Int) (fuel : Int) : (runI vs body inp fuel).out.length ≤ 3000 ∧ (runI vs body inp fuel).cells.length ≤ 48 := by
 unfold runI
 split
 ·rename_i h
  split
  ·obtain ⟨n, m, out, h1, _, _, _, _, h5, h6, h7⟩ := says_at h hsz inp fuel.toNat
   rw [h7]
   exact ⟨by show out.length ≤ 3000; omega, h5⟩
  ·exact ⟨by simp, by simp⟩
 ·exact ⟨by simp, by simp⟩
theorem runI_in {vs : List VarT} {body : List ST} {inp : List Int} {fuel : Int} (h : progFault vs body = 0) (hi : inp.length ≤ 40) (h0 : 0 ≤ fuel) (h3 : fuel ≤ 3000) : runI vs body inp fuel = toldX (resX (saysX vs body inp fuel.toNat)) := by
 unfold runI
 rw [if_pos h, if_pos ⟨hi, h0, h3⟩]
theorem runI_not {vs : List VarT} {body : List ST} {inp : List Int} {fuel : Int} (h : ¬ progFault vs body = 0) : runI vs body inp fuel = ⟨0, [], [], 0, progFault vs body⟩ := by
 unfold runI
 rw [if_neg h]
theorem runI_off {vs : List VarT} {body : List ST} {inp : List Int} {fuel : Int} (h : progFault vs body = 0) (hi : ¬ (inp.length ≤ 40 ∧ 0 ≤ fuel ∧ fuel ≤ 3000)) : runI vs body inp fuel = ⟨0, [], [], 0, 1⟩ := by
 unfold runI
 rw [if_pos h, if_neg hi]
def jz : List Value := [.int .i64 0, .int .i64 0, .int .i64 0, .slice none 0 0]
theorem ls_nil (w : World) : LsC w (.slice none 0 0) [] := ⟨⟨none, 0, rfl, fun h => absurd h (by simp)⟩, fun a n cap h => by injection h with h1 h2 h3; omega⟩
end
section
open Go.Proofs
theorem codeB_nat (m : Md) (p : Pr) (h : p.2 = false) : codeB m p = (((if m.state = 0 then 13 else if m.state = 1 then 0 else m.state - 2 : Nat)) : Int) := by
 unfold codeB
 rw [h]
 simp only [Bool.false_eq_true, if_false]
 split
 ·rfl
 ·split
  ·rw [if_neg (by omega)]; omega
  ·rw [if_pos (by omega)]; rfl
end
section
open Go.Proofs
def spC (s : Sp) : List Value := [.int .i64 s.1, .int .i64 s.2.1, .int .i64 s.2.2.1, .int .u64 (s.2.2.2 : Nat)]
def newF (vs : List VarT) (body : List ST) (inp : List Int) : Int := if progFault vs body = 0 then (if inp.length ≤ 40 then 0 else 1) else progFault vs body
def lz0 (c : Nat) : Lz := ⟨lf0 c, List.replicate 112 0, List.replicate 112 0, 0⟩
def InvZ (vs : List VarT) (body : List ST) (inp : List Int) (z : Lz) (i : Nat) : Prop := (0 ≤ z.gen ∧ z.gen ≤ (i : Int)) ∧ ∃ g, g ≤ i ∧ InvL (insP vs body) inp (sumV vs).toNat z.lf g
def doZS (nw : List Is → List Int → Md → List Int → List Int) (L : List Is) (inp : List Int) (s : Sp) (z : Lz) : Lz × Nat := if spFault s = 0 then doZ nw L inp s.1 s.2.1.toNat (spKeep s) z else (z, 0)
end
section
open Go.Proofs
section
variable {nw : List Is → List Int → Md → List Int → List Int} {vs : List VarT} {body : List ST} {inp : List Int} {z : Lz} {i : Nat}
theorem InvZ.mono (h : InvZ vs body inp z i) {j : Nat} (hij : i ≤ j) : InvZ vs body inp z j := let ⟨⟨a, b⟩, g, h1, h2⟩ := h; ⟨⟨a, by omega⟩, g, Nat.le_trans h1 hij, h2⟩
theorem doZS_le (s : Sp) (z : Lz) : (doZS nw (insP vs body) inp s z).2 ≤ (if 0 < s.2.1 ∧ s.2.1 ≤ 3000 then s.2.1.toNat else 0) := by
 unfold doZS
 by_cases hf : spFault s = 0
 ·rw [if_pos hf, (doZ_lf _ _ _ z).2]
  by_cases h2 : s.1 = 2
  ·unfold doL
   rw [if_pos h2]
   exact Nat.zero_le _
  ·have hN : 0 ≤ s.2.1 ∧ s.2.1 ≤ 3000 := by
    unfold spFault at hf
    split at hf
    ·omega
    ·split at hf
     ·omega
     ·rename_i h1 h3
      constructor
      ·exact Int.not_lt.1 fun h => h3 (.inl ⟨h2, .inl h⟩)
      ·exact Int.not_lt.1 fun h => h3 (.inl ⟨h2, .inr h⟩)
   have := doL_le (insP vs body) inp s.1 s.2.1.toNat (spKeep s) z.lf
   split <;> omega
 ·rw [if_neg hf]
  exact Nat.zero_le _
theorem InvZ.step (h : InvZ vs body inp z i) (s : Sp) : InvZ vs body inp (doZS nw (insP vs body) inp s z).1 (i + (doZS nw (insP vs body) inp s z).2) := by
 obtain ⟨⟨k1, k2⟩, g, h1, h2⟩ := h
 unfold doZS
 by_cases hf : spFault s = 0
 ·rw [if_pos hf]
  obtain ⟨e1, e2⟩ := doZ_lf (nw := nw) (L := insP vs body) (inp := inp) s.1 s.2.1.toNat (spKeep s) z
  obtain ⟨g', a1, a2, a3⟩ := h2.does s.1 s.2.1.toNat (spKeep s)
  obtain ⟨k3, k4⟩ := doZ_gen (nw := nw) (L := insP vs body) (inp := inp) s.1 s.2.1.toNat (spKeep s) z
  refine ⟨⟨by omega, by omega⟩, g', by rw [e2]; omega, ?_⟩
  rw [e1]
  exact a3
 ·rw [if_neg hf]
  exact ⟨⟨k1, by simp only; omega⟩, g, by omega, h2⟩
theorem InvZ.stepN (h : InvZ vs body inp z i) (s : Sp) : InvZ vs body inp (doZS nw (insP vs body) inp s z).1 (i + (if 0 < s.2.1 ∧ s.2.1 ≤ 3000 then s.2.1.toNat else 0)) := (h.step s).mono (Nat.add_le_add_left (doZS_le s z) i)
theorem InvZ.bnd (h : InvZ vs body inp z i) (hpf : progFault vs body = 0) (hsz : szSs body ≤ 1000) : z.lf.p.1.length ≤ i ∧ z.lf.m.cells.length ≤ 48 ∧ z.lf.p.2 = false := by
 obtain ⟨_, g, h1, a, b, e1, e2, e3, _, _⟩ := h
 obtain ⟨c, hc, h48, hP⟩ := prog_prg hpf hsz
 have hcc : c = (sumV vs).toNat := by omega
 obtain ⟨_, b2, _⟩ := pu_bounds (W := insP vs body) (inp := inp) (c := (sumV vs).toNat) g
 have hf := pu_fit (inp := inp) hP.sim hP.jmp a
 rw [hcc] at hf
 have hcl := hf.cells
 refine ⟨by rw [e3]; omega, ?_, by rw [e3]; exact (pu_out g).2⟩
 have : ((z.lf.m.cells.length : Nat) : Int) = ((sumV vs).toNat : Nat) := by rw [e1]; exact hcl
 omega
end
theorem cell_keep {w w' : World} {b i : Nat} {v : Value} (hk : Keep [] w w') (hc : w.cell? ⟨b, i, none⟩ = some v) : w'.cell? ⟨b, i, none⟩ = some v := by
 have hb : b < w.heap.size := by
  rcases Nat.lt_or_ge b w.heap.size with h | h
  ·exact h
  ·exfalso
   have hn : w.heap[b]? = none := Array.getElem?_eq_none h
   simp [World.cell?, hn] at hc
 rw [World.cell?_of_block (w := w) (hk.block b hb (by simp))]
 exact hc
def NotIn (v : Value) (g : Nat) : Prop := ∀ b q n c, v = .slice (some ⟨b, q, none⟩) n c → 0 < n → b ≠ g
theorem Nw.notOld {w : World} {v : Value} {g : Nat} (h : Nw w v) (hg : g < w.heap.size) : NotIn v g := fun b q n c he h0 => by
 have := h b q n c he h0
 omega
theorem LsV.keepN {w w' : World} {v : Value} {l : List Int} {g : Nat} (h : LsV w v l) (hk : Keep [g] w w') (hn : NotIn v g) : LsV w' v l := by
 obtain ⟨a, k, rfl, h2⟩ := h
 refine ⟨a, k, rfl, fun h0 => ?_⟩
 obtain ⟨b, q, rfl, h3, h4⟩ := h2 h0
 exact ⟨b, q, rfl, Nat.lt_of_lt_of_le h3 hk.size, range_keep h4 hk h3 (by simpa using hn b q _ k rfl h0)⟩
theorem Nw.low {w w' : World} {v : Value} (h : Nw w' v) (hk : w.heap.size ≤ w'.heap.size) : Nw w v := fun b q n c he h0 => Nat.le_trans hk (h b q n c he h0)
theorem LsV.form {w : World} {v : Value} {l : List Int} (h : LsV w v l) : ∃ a k, v = .slice a l.length k := let ⟨a, k, h, _⟩ := h; ⟨a, k, h⟩
end
section
abbrev Flt := Int × Int
def bnd {α β : Type} (x : Except Flt α) (f : α → Except Flt β) : Except Flt β := match x with
 | .error e => .error e
 | .ok a => f a
def wordT : Nat → List UInt8
 | 1 => [110, 117, 109]
 | 2 => [118, 97, 114]
 | 3 => [103, 101, 116]
 | 4 => [97, 100, 100]
 | 5 => [115, 117, 98]
 | 6 => [109, 117, 108]
 | 7 => [108, 101, 115, 115]
 | 8 => [115, 97, 109, 101]
 | _ => []
def verbT : Nat → List UInt8
 | 1 => [115, 101, 116]
 | 2 => [112, 117, 116]
 | 3 => [112, 114, 105, 110, 116]
 | 4 => [114, 101, 97, 100]
 | 5 => [119, 104, 105, 108, 101]
 | 6 => [105, 102]
 | 7 => [99, 111, 109, 109, 105, 116]
 | _ => []
def letT : List UInt8 := [108, 101, 116]
section
variable (ts : List Tok) (fin : Nat)
def wrongAt (code : Int) (i : Nat) : Flt := match ts[i]? with
 | some t => (code, (t.pos : Nat))
 | none => (if code = 5 then 6 else code, (fin : Nat))
def isT (i : Nat) (s : List UInt8) : Bool := match ts[i]? with
 | some t => !t.num && t.text == s
 | none => false
def mustP (s : List UInt8) (i : Nat) : Except Flt Nat := if isT ts i s then .ok (i + 1) else .error (wrongAt ts fin 5 i)
def numP (i : Nat) : Except Flt (Int × Nat) := match ts[i]? with
 | some t => if t.num then .ok (t.val, i + 1) else .error (wrongAt ts fin 5 i)
 | none => .error (wrongAt ts fin 5 i)
def nameB (l : List UInt8) : Bool := l.all letB && decide (1 ≤ l.length) && decide (l.length ≤ 8)
def nameP (i : Nat) : Except Flt (List UInt8 × Nat) := match ts[i]? with
 | some t => if nameB t.text then .ok (t.text, i + 1) else .error (wrongAt ts fin 5 i)
 | none => .error (wrongAt ts fin 5 i)
def findV : List VarT → List UInt8 → Option Nat
 | [], _ => none
 | x :: r, s => if x.1.data.toList == s then some 0 else (findV r s).map (· + 1)
def varP (vs : List VarT) (i : Nat) : Except Flt (Nat × Nat) :=
 bnd (nameP ts fin i) fun (s, j) => match findV vs s with
  | some k => .ok (k, j)
  | none => .error (wrongAt ts fin 10 i)
def pickK (of : Nat → List UInt8) (i : Nat) : Nat → Nat → Option Nat
 | _, 0 => none
 | k, n + 1 => if isT ts i (of k) then some k else pickK of i (k + 1) n
def beginP (of : Nat → List UInt8) (most i : Nat) : Except Flt (Nat × Nat) :=
 bnd (mustP ts fin [40] i) fun j => match pickK ts of j 1 most with
  | some k => .ok (k, j + 1)
  | none => .error (wrongAt ts fin 5 j)
def manyP {α : Type} (one : Nat → Except Flt (α × Nat)) : Nat → Nat → Except Flt (List α × Nat)
 | 0, i => .ok ([], i)
 | m + 1, i => bnd (one i) fun (t, j) => bnd (manyP one m j) fun (r, k) => .ok (t :: r, k)
def untilP {α : Type} (stop : Nat → Bool) (one : Nat → Except Flt (α × Nat)) : Nat → Nat → Except Flt (List α × Nat)
 | 0, _ => .error (0, 0)
 | m + 1, i => if stop i then .ok ([], i) else bnd (one i) fun (t, j) => bnd (untilP stop one m j) fun (r, k) => .ok (t :: r, k)
def exprP (vs : List VarT) : Nat → Nat → Except Flt (ET × Nat)
 | 0, i => .error (wrongAt ts fin 4 i)
 | f + 1, i => bnd (beginP ts fin wordT 8 i) fun (k, i1) =>
   bnd (if k = 1 then numP ts fin i1 else .ok (0, i1)) fun (n, i2) =>
   bnd (if k = 2 ∨ k = 3 then varP ts fin vs i2 else .ok (0, i2)) fun (v, i3) =>
   bnd (manyP (exprP vs f) (partsOf (k : Nat)).toNat i3) fun (l, i4) =>
   bnd (mustP ts fin [41] i4) fun i5 => .ok (.mk (k : Nat) (v : Nat) n l, i5)
def listP (one : Nat → Except Flt (ST × Nat)) (i : Nat) : Except Flt (List ST × Nat) :=
 bnd (mustP ts fin [40] i) fun j => bnd (untilP (fun j => isT ts j [41]) one (ts.length + 1 - j) j) fun (l, k) => bnd (mustP ts fin [41] k) fun m => .ok (l, m)
def stmtP (vs : List VarT) : Nat → Nat → Except Flt (ST × Nat)
 | 0, i => .error (wrongAt ts fin 4 i)
 | f + 1, i => bnd (beginP ts fin verbT 7 i) fun (k, i1) =>
   bnd (if needV (k : Nat) then varP ts fin vs i1 else .ok (0, i1)) fun (v, i2) =>
   bnd (if needE (k : Nat) then exprP ts fin vs f i2 else .ok (zeroT, i2)) fun (e, i3) =>
   bnd (if needF (k : Nat) then exprP ts fin vs f i3 else .ok (zeroT, i3)) fun (g, i4) =>
   bnd (if needB (k : Nat) then listP ts fin (stmtP vs f) i4 else .ok ([], i4)) fun (b, i5) =>
   bnd (if needO (k : Nat) then listP ts fin (stmtP vs f) i5 else .ok ([], i5)) fun (o, i6) =>
   bnd (mustP ts fin [41] i6) fun i7 => .ok (.mk (k : Nat) (v : Nat) e g b o, i7)
def sizeP (n : Int) : Int := if 1 ≤ n ∧ n ≤ 48 then n else 0
def letP (i : Nat) : Except Flt (VarT × Nat) := bnd (nameP ts fin (i + 1)) fun (s, j) => bnd (numP ts fin j) fun (n, k) => .ok ((str s, sizeP n), k)
def letsP (i : Nat) : Except Flt (List VarT × Nat) := untilP (fun j => !isT ts j letT) (letP ts fin) (ts.length + 1 - i) i
def bodyP (vs : List VarT) (i : Nat) : Except Flt (List ST × Nat) := untilP (fun j => decide (ts.length ≤ j)) (stmtP ts fin vs 13) (ts.length + 1 - i) i
def readP : Except Flt (List VarT × List ST) := bnd (letsP ts fin 0) fun (vs, i) => bnd (bodyP ts fin vs i) fun (b, _) => .ok (vs, b)
def parseT : Except Flt (List VarT × List ST) := bnd (readP ts fin) fun (vs, b) => if progFault vs b ≠ 0 then .error (progFault vs b, -1) else .ok (vs, b)
end
def sim {α : Type} : Except Flt α → Except Flt α → Prop
 | .ok a, .ok b => a = b
 | .error _, .error _ => True
 | _, _ => False
theorem bnd_ok {α β : Type} {x : Except Flt α} {f : α → Except Flt β} {b : β} (h : bnd x f = .ok b) : ∃ a, x = .ok a ∧ f a = .ok b := by
 cases x with
 | error e => cases h
 | ok a => exact ⟨a, rfl, h⟩
section
variable {ts : List Tok} {fin : Nat}
theorem isT_lt {i : Nat} {s : List UInt8} (h : isT ts i s = true) : i < ts.length := by
 unfold isT at h
 split at h
 ·rename_i t ht; exact (List.getElem?_eq_some_iff.1 ht).1
 ·cases h
theorem mustP_ok {s : List UInt8} {i j : Nat} (h : mustP ts fin s i = .ok j) : j = i + 1 ∧ i < ts.length ∧ isT ts i s = true := by
 unfold mustP at h
 split at h
 ·rename_i ht
  injection h with h
  exact ⟨h.symm, isT_lt ht, ht⟩
 ·cases h
theorem numP_ok {i : Nat} {r : Int × Nat} (h : numP ts fin i = .ok r) : r.2 = i + 1 ∧ i < ts.length := by
 unfold numP at h
 split at h
 ·rename_i t ht
  split at h
  ·injection h with h; subst h; exact ⟨rfl, (List.getElem?_eq_some_iff.1 ht).1⟩
  ·cases h
 ·cases h
theorem nameP_ok {i : Nat} {r : List UInt8 × Nat} (h : nameP ts fin i = .ok r) : r.2 = i + 1 ∧ i < ts.length := by
 unfold nameP at h
 split at h
 ·rename_i t ht
  split at h
  ·injection h with h; subst h; exact ⟨rfl, (List.getElem?_eq_some_iff.1 ht).1⟩
  ·cases h
 ·cases h
theorem varP_ok {vs : List VarT} {i : Nat} {r : Nat × Nat} (h : varP ts fin vs i = .ok r) : r.2 = i + 1 ∧ i < ts.length := by
 unfold varP at h
 obtain ⟨⟨s, j⟩, h1, h2⟩ := bnd_ok h
 have h3 := nameP_ok h1
 dsimp only at h2 h3
 split at h2
 ·injection h2 with h2; subst h2; exact h3
 ·cases h2
theorem pickK_ok {of : Nat → List UInt8} {i : Nat} : ∀ {n k r : Nat}, pickK ts of i k n = some r → k ≤ r ∧ r < k + n ∧ isT ts i (of r) = true
 | 0, _, _, h => by cases h
 | n + 1, k, r, h => by
  unfold pickK at h
  split at h
  ·rename_i ht
   injection h with h
   subst h
   exact ⟨Nat.le_refl _, by omega, ht⟩
  ·have := pickK_ok h
   exact ⟨by omega, by omega, this.2.2⟩
theorem beginP_ok {of : Nat → List UInt8} {most i : Nat} {r : Nat × Nat} (h : beginP ts fin of most i = .ok r) : r.2 = i + 2 ∧ i + 1 < ts.length ∧ 1 ≤ r.1 ∧ r.1 ≤ most := by
 unfold beginP at h
 obtain ⟨j, h1, h2⟩ := bnd_ok h
 obtain ⟨rfl, h3, _⟩ := mustP_ok h1
 split at h2
 ·rename_i k hk
  injection h2 with h2
  subst h2
  have := pickK_ok hk
  exact ⟨rfl, isT_lt this.2.2, this.1, by omega⟩
 ·cases h2
theorem manyP_ok {α : Type} {one : Nat → Except Flt (α × Nat)} (h1 : ∀ i r, one i = .ok r → i < r.2 ∧ r.2 ≤ ts.length) : ∀ (m i : Nat) (r : List α × Nat), i ≤ ts.length → manyP one m i = .ok r → i ≤ r.2 ∧ r.2 ≤ ts.length ∧ r.1.length = m
 | 0, i, r, hi, h => by
  injection h with h
  subst h
  exact ⟨Nat.le_refl _, hi, rfl⟩
 | m + 1, i, r, hi, h => by
  obtain ⟨⟨t, j⟩, ha, hb⟩ := bnd_ok h
  obtain ⟨⟨r', k⟩, hc, hd⟩ := bnd_ok hb
  injection hd with hd
  subst hd
  have e1 := h1 _ _ ha
  have e2 := manyP_ok h1 m j _ e1.2 hc
  dsimp only at e1 e2 ⊢
  simp only [List.length_cons]
  omega
theorem untilP_ok {α : Type} {st : Nat → Bool} {one : Nat → Except Flt (α × Nat)} (h1 : ∀ i r, one i = .ok r → i < r.2 ∧ r.2 ≤ ts.length) : ∀ (m i : Nat) (r : List α × Nat), i ≤ ts.length → untilP st one m i = .ok r → i ≤ r.2 ∧ r.2 ≤ ts.length ∧ st r.2 = true
 | 0, _, _, _, h => by cases h
 | m + 1, i, r, hi, h => by
  unfold untilP at h
  split at h
  ·rename_i hs
   injection h with h
   subst h
   exact ⟨Nat.le_refl _, hi, hs⟩
  ·obtain ⟨⟨t, j⟩, ha, hb⟩ := bnd_ok h
   obtain ⟨⟨r', k⟩, hc, hd⟩ := bnd_ok hb
   injection hd with hd
   subst hd
   have e1 := h1 _ _ ha
   have e2 := untilP_ok h1 m j _ e1.2 hc
   dsimp only at e1 e2 ⊢
   exact ⟨by omega, e2.2.1, e2.2.2⟩
theorem untilP_fuel {α : Type} {st : Nat → Bool} {one : Nat → Except Flt (α × Nat)} (h1 : ∀ i r, one i = .ok r → i < r.2 ∧ r.2 ≤ ts.length) : ∀ (m n i : Nat), i ≤ ts.length → ts.length < m + i → ts.length < n + i → untilP st one m i = untilP st one n i
 | 0, _, _, _, h, _ => by omega
 | _ + 1, 0, _, _, _, h => by omega
 | m + 1, n + 1, i, hi, hm, hn => by
  unfold untilP
  split
  ·rfl
  ·cases ha : one i with
   | error e => rfl
   | ok r =>
    obtain ⟨t, j⟩ := r
    have e1 := h1 _ _ ha
    dsimp only at e1
    show bnd (untilP st one m j) _ = bnd (untilP st one n j) _
    rw [untilP_fuel h1 m n j e1.2 (by omega) (by omega)]
theorem exprP_ok (vs : List VarT) : ∀ (f i : Nat) (r : ET × Nat), exprP ts fin vs f i = .ok r → i < r.2 ∧ r.2 ≤ ts.length
 | 0, _, _, h => by cases h
 | f + 1, i, r, h => by
  unfold exprP at h
  obtain ⟨⟨k, i1⟩, h1, h⟩ := bnd_ok h
  obtain ⟨⟨n, i2⟩, h2, h⟩ := bnd_ok h
  obtain ⟨⟨v, i3⟩, h3, h⟩ := bnd_ok h
  obtain ⟨⟨l, i4⟩, h4, h⟩ := bnd_ok h
  obtain ⟨i5, h5, h⟩ := bnd_ok h
  injection h with h
  subst h
  have e1 := beginP_ok h1
  dsimp only at e1 h2 h3 h4 h5 ⊢
  have e2 : i1 ≤ i2 ∧ i2 ≤ ts.length := by
   split at h2
   ·have := numP_ok h2; dsimp only at this; omega
   ·injection h2 with h2; injection h2 with _ h2; omega
  have e3 : i2 ≤ i3 ∧ i3 ≤ ts.length := by
   split at h3
   ·have := varP_ok h3; dsimp only at this; omega
   ·injection h3 with h3; injection h3 with _ h3; omega
  have e4 := manyP_ok (exprP_ok vs f) _ _ _ e3.2 h4
  have e5 := mustP_ok h5
  dsimp only at e4
  omega
theorem listP_ok {one : Nat → Except Flt (ST × Nat)} (hone : ∀ i r, one i = .ok r → i < r.2 ∧ r.2 ≤ ts.length) {i : Nat} {r : List ST × Nat} (h : listP ts fin one i = .ok r) : i < r.2 ∧ r.2 ≤ ts.length := by
 unfold listP at h
 obtain ⟨j, h1, h⟩ := bnd_ok h
 obtain ⟨⟨l, k⟩, h2, h⟩ := bnd_ok h
 obtain ⟨m, h3, h⟩ := bnd_ok h
 injection h with h
 subst h
 have e1 := mustP_ok h1
 have e2 := untilP_ok hone _ _ _ (by omega) h2
 have e3 := mustP_ok h3
 dsimp only at e2 ⊢
 omega
theorem stmtP_ok (vs : List VarT) : ∀ (f i : Nat) (r : ST × Nat), stmtP ts fin vs f i = .ok r → i < r.2 ∧ r.2 ≤ ts.length
 | 0, _, _, h => by cases h
 | f + 1, i, r, h => by
  unfold stmtP at h
  obtain ⟨⟨k, i1⟩, h1, h⟩ := bnd_ok h
  obtain ⟨⟨v, i2⟩, h2, h⟩ := bnd_ok h
  obtain ⟨⟨e, i3⟩, h3, h⟩ := bnd_ok h
  obtain ⟨⟨g, i4⟩, h4, h⟩ := bnd_ok h
  obtain ⟨⟨b, i5⟩, h5, h⟩ := bnd_ok h
  obtain ⟨⟨o, i6⟩, h6, h⟩ := bnd_ok h
  obtain ⟨i7, h7, h⟩ := bnd_ok h
  injection h with h
  subst h
  have e1 := beginP_ok h1
  dsimp only at e1 h2 h3 h4 h5 h6 h7 ⊢
  have e2 : i1 ≤ i2 ∧ i2 ≤ ts.length := by
   split at h2
   ·have := varP_ok h2; dsimp only at this; omega
   ·injection h2 with h2; injection h2 with _ h2; omega
  have e3 : i2 ≤ i3 ∧ i3 ≤ ts.length := by
   split at h3
   ·have := exprP_ok vs f _ _ h3; dsimp only at this; omega
   ·injection h3 with h3; injection h3 with _ h3; omega
  have e4 : i3 ≤ i4 ∧ i4 ≤ ts.length := by
   split at h4
   ·have := exprP_ok vs f _ _ h4; dsimp only at this; omega
   ·injection h4 with h4; injection h4 with _ h4; omega
  have e5 : i4 ≤ i5 ∧ i5 ≤ ts.length := by
   split at h5
   ·have := listP_ok (stmtP_ok vs f) h5; dsimp only at this; omega
   ·injection h5 with h5; injection h5 with _ h5; omega
  have e6 : i5 ≤ i6 ∧ i6 ≤ ts.length := by
   split at h6
   ·have := listP_ok (stmtP_ok vs f) h6; dsimp only at this; omega
   ·injection h6 with h6; injection h6 with _ h6; omega
  have e7 := mustP_ok h7
  omega
theorem letP_ok {i : Nat} {r : VarT × Nat} (h : letP ts fin i = .ok r) : i < r.2 ∧ r.2 ≤ ts.length := by
 unfold letP at h
 obtain ⟨⟨s, j⟩, h1, h⟩ := bnd_ok h
 obtain ⟨⟨n, k⟩, h2, h⟩ := bnd_ok h
 injection h with h
 subst h
 have e1 := nameP_ok h1
 have e2 := numP_ok h2
 dsimp only at e1 e2 ⊢
 omega
end
end
section
open Go.Lib
abbrev Tk := List UInt8 × Bool × Int
def tri (t : Tok) : Tk := (t.text, t.num, t.val)
theorem itoa_form (n : Int) : ∃ c u, itoa n = c :: u ∧ (dig c || c == 45) = true ∧ u.all dig = true := by
 unfold itoa
 split
 ·exact ⟨45, _, rfl, by decide, decDigits_digs _⟩
 ·cases h : decDigits n.toNat with
  | nil => exact absurd h (decDigits_ne _)
  | cons c u =>
   have hd := decDigits_digs n.toNat
   rw [h, List.all_cons, Bool.and_eq_true] at hd
   exact ⟨c, u, rfl, by rw [hd.1]; rfl, hd.2⟩
end
section
open Go.Lib
def nameV (vs : List VarT) (v : Nat) : List UInt8 := (vs.getD v (⟨#[]⟩, 0)).1.data.toList
def opn : Tk := ([40], false, 0)
def cls : Tk := ([41], false, 0)
def wrd (w : List UInt8) : Tk := (w, false, 0)
def nmb (n : Int) : Tk := (itoa n, true, n)
mutual
def printE (vs : List VarT) : ET → List UInt8
 | .mk op v n l => 40 :: (wordT op.toNat ++ ((if op = 1 then 32 :: itoa n else []) ++ ((if op = 2 ∨ op = 3 then 32 :: nameV vs v.toNat else []) ++ (printEs vs l ++ [41]))))
def printEs (vs : List VarT) : List ET → List UInt8
 | [] => []
 | t :: r => 32 :: (printE vs t ++ printEs vs r)
end
mutual
def tokE (vs : List VarT) : ET → List Tk
 | .mk op v n l => opn :: wrd (wordT op.toNat) :: ((if op = 1 then [nmb n] else []) ++ ((if op = 2 ∨ op = 3 then [wrd (nameV vs v.toNat)] else []) ++ (tokEs vs l ++ [cls])))
def tokEs (vs : List VarT) : List ET → List Tk
 | [] => []
 | t :: r => tokE vs t ++ tokEs vs r
end
mutual
def printS (vs : List VarT) : ST → List UInt8
 | .mk op v e f b o => 40 :: (verbT op.toNat ++ ((if needV op then 32 :: nameV vs v.toNat else []) ++ ((if needE op then 32 :: printE vs e else []) ++ ((if needF op then 32 :: printE vs f else []) ++
   ((if needB op then 32 :: 40 :: (printSs vs false b ++ [41]) else []) ++ ((if needO op then 32 :: 40 :: (printSs vs false o ++ [41]) else []) ++ [41]))))))
def printSs (vs : List VarT) : Bool → List ST → List UInt8
 | _, [] => []
 | c, t :: r => (if c then [32] else []) ++ (printS vs t ++ printSs vs true r)
end
mutual
def tokS (vs : List VarT) : ST → List Tk
 | .mk op v e f b o => opn :: wrd (verbT op.toNat) :: ((if needV op then [wrd (nameV vs v.toNat)] else []) ++ ((if needE op then tokE vs e else []) ++ ((if needF op then tokE vs f else []) ++
   ((if needB op then opn :: (tokSs vs b ++ [cls]) else []) ++ ((if needO op then opn :: (tokSs vs o ++ [cls]) else []) ++ [cls])))))
def tokSs (vs : List VarT) : List ST → List Tk
 | [] => []
 | t :: r => tokS vs t ++ tokSs vs r
end
def in64 (n : Int) : Prop := -9223372036854775808 ≤ n ∧ n ≤ 9223372036854775807
mutual
def longE : ET → Prop
 | .mk _ _ n l => in64 n ∧ longEs l
def longEs : List ET → Prop
 | [] => True
 | t :: r => longE t ∧ longEs r
end
mutual
def longSt : ST → Prop
 | .mk _ _ e f b o => longE e ∧ longE f ∧ longSs b ∧ longSs o
def longSs : List ST → Prop
 | [] => True
 | t :: r => longSt t ∧ longSs r
end
end
section
open Go.Lib
def At (ts : List Tok) (i : Nat) (K : List Tk) : Prop := ∀ (j : Nat) (x : Tk), K[j]? = some x → ∃ t, ts[i + j]? = some t ∧ tri t = x
def One (ts : List Tok) (i : Nat) (x : Tk) : Prop := ∃ t, ts[i]? = some t ∧ tri t = x
end
def faultOf (l : List UInt8) : Int × Int :=
 if 6000 < l.length then (3, 6000) else match scanOf l with
  | .error e => (7, ((e : Nat) : Int))
  | .ok _ => (0, 0)
def toksOf (l : List UInt8) : List Tok :=
 if 6000 < l.length then [] else match scanOf l with
  | .error _ => []
  | .ok ts => ts
theorem drop_atT {l : List UInt8} {i : Nat} (h : i < l.length) : ∃ c r, l.drop i = c :: r ∧ l[i]? = some c ∧ l.drop (i + 1) = r := by
 refine ⟨l[i], l.drop (i + 1), List.drop_eq_getElem_cons h, List.getElem?_eq_getElem h, rfl⟩
theorem bit_len {c : UInt8} {r t : List UInt8} {b : Bool} {v : Int} (h : bit c r = .tok t b v) : 1 ≤ t.length ∧ t.length ≤ (c :: r).length := by
 obtain ⟨u, q, rfl, rfl, _⟩ := bit_tok h
 simp only [List.length_cons, List.length_append]
 omega
theorem bit_not_skip {c : UInt8} {r : List UInt8} (hbl : blankB c = false) : bit c r ≠ .skip := by
 intro hbit
 unfold bit at hbit
 rw [hbl] at hbit
 split at hbit
 ·rename_i h; cases h
 ·split at hbit
  ·cases hbit
  ·split at hbit
   ·cases hbit
   ·split at hbit
    ·split at hbit <;> cases hbit
    ·cases hbit
theorem faultOf_error {l : List UInt8} {e : Nat} (hn : ¬ 6000 < l.length) (h : scanOf l = .error e) : faultOf l = (7, ((e : Nat) : Int)) ∧ toksOf l = [] := by
 unfold faultOf toksOf
 rw [if_neg hn, if_neg hn, h]
 exact ⟨rfl, rfl⟩
theorem faultOf_ok {l : List UInt8} {ts : List Tok} (hn : ¬ 6000 < l.length) (h : scanOf l = .ok ts) : faultOf l = (0, 0) ∧ toksOf l = ts := by
 unfold faultOf toksOf
 rw [if_neg hn, if_neg hn, h]
 exact ⟨rfl, rfl⟩
theorem fault_cases (l : List UInt8) (hl : l.length ≤ 6000) : (∃ e : Nat, faultOf l = (7, ((e : Nat) : Int)) ∧ toksOf l = []) ∨ (∃ ts, scanOf l = .ok ts ∧ faultOf l = (0, 0) ∧ toksOf l = ts) := by
 cases h : scanOf l with
 | error e => exact .inl ⟨e, faultOf_error (by omega) h⟩
 | ok ts => exact .inr ⟨ts, rfl, faultOf_ok (by omega) h⟩
section
open Go.Lib
def longTs (ts : List Tok) : Prop := ∀ t ∈ ts, in64 t.val
theorem bit_long {c : UInt8} {r t : List UInt8} {b : Bool} {v : Int} (h : bit c r = .tok t b v) : in64 v := by
 unfold bit at h
 split at h
 ·cases h
 split at h
 ·injection h with _ _ h; subst h; exact ⟨by decide, by decide⟩
 split at h
 ·injection h with _ _ h; subst h; exact ⟨by decide, by decide⟩
 split at h
 ·split at h
  ·rename_i w hw
   injection h with _ _ h
   subst h
   have := longOf_some hw
   exact ⟨this.2.1, this.2.2.1⟩
  ·cases h
 ·cases h
theorem fine_long : ∀ {ts : List Tok}, fine ts → longTs ts
 | [], _ => fun t ht => by simp at ht
 | x :: r, h => by
  obtain ⟨⟨c, u, r0, _, h2⟩, h3⟩ := h
  intro t ht
  rcases List.mem_cons.1 ht with rfl | ht
  ·exact bit_long h2
  ·exact fine_long h3 t ht
theorem scan_long {l : List UInt8} {ts : List Tok} (h : scanOf l = .ok ts) : longTs ts := fine_long (toks_fine _ _ _ _ h).1
section
variable {ts : List Tok} {fin : Nat}
theorem numP_long (hl : longTs ts) {i : Nat} {r : Int × Nat} (h : numP ts fin i = .ok r) : in64 r.1 := by
 unfold numP at h
 split at h
 ·rename_i t ht
  split at h
  ·injection h with h; subst h; exact hl t (List.mem_of_getElem? ht)
  ·cases h
 ·cases h
theorem manyP_long {one : Nat → Except Flt (ET × Nat)} (h1 : ∀ i r, one i = .ok r → longE r.1) : ∀ (m i : Nat) (r : List ET × Nat), manyP one m i = .ok r → longEs r.1
 | 0, i, r, h => by injection h with h; subst h; simp only [longEs]
 | m + 1, i, r, h => by
  obtain ⟨⟨t, j⟩, ha, hb⟩ := bnd_ok h
  obtain ⟨⟨r', k⟩, hc, hd⟩ := bnd_ok hb
  injection hd with hd
  subst hd
  simp only [longEs]
  exact ⟨h1 _ _ ha, manyP_long h1 m j _ hc⟩
theorem untilP_long {st : Nat → Bool} {one : Nat → Except Flt (ST × Nat)} (h1 : ∀ i r, one i = .ok r → longSt r.1) : ∀ (m i : Nat) (r : List ST × Nat), untilP st one m i = .ok r → longSs r.1
 | 0, _, _, h => by cases h
 | m + 1, i, r, h => by
  unfold untilP at h
  split at h
  ·injection h with h; subst h; simp only [longSs]
  ·obtain ⟨⟨t, j⟩, ha, hb⟩ := bnd_ok h
   obtain ⟨⟨r', k⟩, hc, hd⟩ := bnd_ok hb
   injection hd with hd
   subst hd
   simp only [longSs]
   exact ⟨h1 _ _ ha, untilP_long h1 m j _ hc⟩
theorem exprP_long (hl : longTs ts) (vs : List VarT) : ∀ (f i : Nat) (r : ET × Nat), exprP ts fin vs f i = .ok r → longE r.1
 | 0, _, _, h => by cases h
 | f + 1, i, r, h => by
  unfold exprP at h
  obtain ⟨⟨k, i1⟩, h1, h⟩ := bnd_ok h
  obtain ⟨⟨n, i2⟩, h2, h⟩ := bnd_ok h
  obtain ⟨⟨v, i3⟩, h3, h⟩ := bnd_ok h
  obtain ⟨⟨l, i4⟩, h4, h⟩ := bnd_ok h
  obtain ⟨i5, h5, h⟩ := bnd_ok h
  injection h with h
  subst h
  simp only [longE]
  refine ⟨?_, manyP_long (exprP_long hl vs f) _ _ _ h4⟩
  split at h2
  ·exact numP_long hl h2
  ·injection h2 with h2; injection h2 with h2 _; subst h2; exact ⟨by decide, by decide⟩
theorem zeroT_long : longE zeroT := by
 simp only [zeroT, longE, longEs, and_true]
 exact ⟨by decide, by decide⟩
theorem listP_long {one : Nat → Except Flt (ST × Nat)} (h1 : ∀ i r, one i = .ok r → longSt r.1) {i : Nat} {r : List ST × Nat} (h : listP ts fin one i = .ok r) : longSs r.1 := by
 unfold listP at h
 obtain ⟨j, _, h⟩ := bnd_ok h
 obtain ⟨⟨l, k⟩, h2, h⟩ := bnd_ok h
 obtain ⟨m, _, h⟩ := bnd_ok h
 injection h with h
 subst h
 exact untilP_long h1 _ _ (l, k) h2
theorem stmtP_long (hl : longTs ts) (vs : List VarT) : ∀ (f i : Nat) (r : ST × Nat), stmtP ts fin vs f i = .ok r → longSt r.1
 | 0, _, _, h => by cases h
 | f + 1, i, r, h => by
  unfold stmtP at h
  obtain ⟨⟨k, i1⟩, h1, h⟩ := bnd_ok h
  obtain ⟨⟨v, i2⟩, h2, h⟩ := bnd_ok h
  obtain ⟨⟨e, i3⟩, h3, h⟩ := bnd_ok h
  obtain ⟨⟨g, i4⟩, h4, h⟩ := bnd_ok h
  obtain ⟨⟨b, i5⟩, h5, h⟩ := bnd_ok h
  obtain ⟨⟨o, i6⟩, h6, h⟩ := bnd_ok h
  obtain ⟨i7, h7, h⟩ := bnd_ok h
  injection h with h
  subst h
  simp only [longSt]
  refine ⟨?_, ?_, ?_, ?_⟩
  ·split at h3
   ·exact exprP_long hl vs f _ _ h3
   ·injection h3 with h3; injection h3 with h3 _; subst h3; exact zeroT_long
  ·split at h4
   ·exact exprP_long hl vs f _ _ h4
   ·injection h4 with h4; injection h4 with h4 _; subst h4; exact zeroT_long
  ·split at h5
   ·exact listP_long (stmtP_long hl vs f) h5
   ·injection h5 with h5; injection h5 with h5 _; subst h5; simp only [longSs]
  ·split at h6
   ·exact listP_long (stmtP_long hl vs f) h6
   ·injection h6 with h6; injection h6 with h6 _; subst h6; simp only [longSs]
theorem readP_long (hl : longTs ts) {vs : List VarT} {b : List ST} (h : readP ts fin = .ok (vs, b)) : longSs b := by
 unfold readP at h
 obtain ⟨⟨vs', i⟩, _, h⟩ := bnd_ok h
 obtain ⟨⟨b', k⟩, h2, h⟩ := bnd_ok h
 injection h with h
 injection h with h3 h4
 subst h3
 subst h4
 exact untilP_long (stmtP_long hl vs' 13) _ _ _ h2
end
def parseOf (l : List UInt8) : Except Flt (List VarT × List ST) := if (faultOf l).1 ≠ 0 then .error (faultOf l) else parseT (toksOf l) l.length
theorem parseOf_ok {l : List UInt8} {r : List VarT × List ST} (h : parseOf l = .ok r) : ∃ ts, scanOf l = .ok ts ∧ l.length ≤ 6000 ∧ readP ts l.length = .ok r ∧ progFault r.1 r.2 = 0 := by
 unfold parseOf at h
 split at h
 ·cases h
 ·rename_i hf
  by_cases hl : 6000 < l.length
  ·exfalso
   apply hf
   unfold faultOf
   rw [if_pos hl]
   decide
  ·cases hs : scanOf l with
   | error e =>
    exfalso
    apply hf
    rw [(faultOf_error hl hs).1]
    show (7 : Int) ≠ 0
    decide
   | ok ts =>
    rw [(faultOf_ok hl hs).2] at h
    unfold parseT at h
    obtain ⟨⟨vs, b⟩, h1, h2⟩ := bnd_ok h
    dsimp only at h2
    split at h2
    ·cases h2
    ·rename_i hp
     injection h2 with h2
     subst h2
     exact ⟨ts, rfl, by omega, h1, by simpa using hp⟩
end
section
section
variable {ts : List Tok} {fin : Nat}
theorem manyP_size {one : Nat → Except Flt (ET × Nat)} (h1 : ∀ i r, one i = .ok r → szE r.1 + i ≤ r.2) : ∀ (m i : Nat) (r : List ET × Nat), manyP one m i = .ok r → szEs r.1 + i ≤ r.2
 | 0, i, r, h => by injection h with h; subst h; simp [szEs]
 | m + 1, i, r, h => by
  obtain ⟨⟨t, j⟩, ha, hb⟩ := bnd_ok h
  obtain ⟨⟨r', k⟩, hc, hd⟩ := bnd_ok hb
  injection hd with hd
  subst hd
  have e1 := h1 _ _ ha
  have e2 := manyP_size h1 m j _ hc
  dsimp only at e1 e2 ⊢
  simp only [szEs]
  omega
theorem exprP_size (vs : List VarT) : ∀ (f i : Nat) (r : ET × Nat), exprP ts fin vs f i = .ok r → szE r.1 + i ≤ r.2
 | 0, _, _, h => by cases h
 | f + 1, i, r, h => by
  unfold exprP at h
  obtain ⟨⟨k, i1⟩, h1, h⟩ := bnd_ok h
  obtain ⟨⟨n, i2⟩, h2, h⟩ := bnd_ok h
  obtain ⟨⟨v, i3⟩, h3, h⟩ := bnd_ok h
  obtain ⟨⟨l, i4⟩, h4, h⟩ := bnd_ok h
  obtain ⟨i5, h5, h⟩ := bnd_ok h
  injection h with h
  subst h
  have e1 := beginP_ok h1
  dsimp only at e1
  have e2 : i1 ≤ i2 := by
   split at h2
   ·have := numP_ok h2; dsimp only at this; omega
   ·injection h2 with h2; injection h2 with _ h2; omega
  have e3 : i2 ≤ i3 := by
   split at h3
   ·have := varP_ok h3; dsimp only at this; omega
   ·injection h3 with h3; injection h3 with _ h3; omega
  have e4 := manyP_size (exprP_size vs f) _ _ _ h4
  have e5 := mustP_ok h5
  dsimp only at e4
  simp only [szE]
  omega
theorem untilP_size {st : Nat → Bool} {one : Nat → Except Flt (ST × Nat)} (h1 : ∀ i r, one i = .ok r → szS r.1 + 3 * i ≤ 3 * r.2) : ∀ (m i : Nat) (r : List ST × Nat), untilP st one m i = .ok r → szSs r.1 + 3 * i ≤ 3 * r.2
 | 0, _, _, h => by cases h
 | m + 1, i, r, h => by
  unfold untilP at h
  split at h
  ·injection h with h; subst h; simp [szSs]
  ·obtain ⟨⟨t, j⟩, ha, hb⟩ := bnd_ok h
   obtain ⟨⟨r', k⟩, hc, hd⟩ := bnd_ok hb
   injection hd with hd
   subst hd
   have e1 := h1 _ _ ha
   have e2 := untilP_size h1 m j _ hc
   dsimp only at e1 e2 ⊢
   simp only [szSs]
   omega
theorem listP_size {one : Nat → Except Flt (ST × Nat)} (h1 : ∀ i r, one i = .ok r → szS r.1 + 3 * i ≤ 3 * r.2) {i : Nat} {r : List ST × Nat} (h : listP ts fin one i = .ok r) : szSs r.1 + 3 * i ≤ 3 * r.2 := by
 unfold listP at h
 obtain ⟨j, ha, h⟩ := bnd_ok h
 obtain ⟨⟨l, k⟩, h2, h⟩ := bnd_ok h
 obtain ⟨m, h3, h⟩ := bnd_ok h
 injection h with h
 subst h
 have e1 := mustP_ok ha
 have e2 := untilP_size h1 _ _ (l, k) h2
 have e3 := mustP_ok h3
 dsimp only at e2 ⊢
 omega
theorem stmtP_size (vs : List VarT) : ∀ (f i : Nat) (r : ST × Nat), stmtP ts fin vs f i = .ok r → szS r.1 + 3 * i ≤ 3 * r.2
 | 0, _, _, h => by cases h
 | f + 1, i, r, h => by
  unfold stmtP at h
  obtain ⟨⟨k, i1⟩, h1, h⟩ := bnd_ok h
  obtain ⟨⟨v, i2⟩, h2, h⟩ := bnd_ok h
  obtain ⟨⟨e, i3⟩, h3, h⟩ := bnd_ok h
  obtain ⟨⟨g, i4⟩, h4, h⟩ := bnd_ok h
  obtain ⟨⟨b, i5⟩, h5, h⟩ := bnd_ok h
  obtain ⟨⟨o, i6⟩, h6, h⟩ := bnd_ok h
  obtain ⟨i7, h7, h⟩ := bnd_ok h
  injection h with h
  subst h
  have e1 := beginP_ok h1
  dsimp only at e1
  have e2 : i1 ≤ i2 := by
   split at h2
   ·have := varP_ok h2; dsimp only at this; omega
   ·injection h2 with h2; injection h2 with _ h2; omega
  have z1 : szE zeroT = 1 := rfl
  have e3 : szE e + i2 ≤ i3 + 1 := by
   split at h3
   ·have := exprP_size vs f _ _ h3; dsimp only at this; omega
   ·injection h3 with h3; injection h3 with h3 h3'; subst h3; omega
  have e3' : i2 ≤ i3 := by
   split at h3
   ·have := exprP_ok vs f _ _ h3; dsimp only at this; omega
   ·injection h3 with h3; injection h3 with _ h3; omega
  have e4 : szE g + i3 ≤ i4 + 1 := by
   split at h4
   ·have := exprP_size vs f _ _ h4; dsimp only at this; omega
   ·injection h4 with h4; injection h4 with h4 h4'; subst h4; omega
  have e4' : i3 ≤ i4 := by
   split at h4
   ·have := exprP_ok vs f _ _ h4; dsimp only at this; omega
   ·injection h4 with h4; injection h4 with _ h4; omega
  have e5 : szSs b + 3 * i4 ≤ 3 * i5 := by
   split at h5
   ·exact listP_size (stmtP_size vs f) h5
   ·injection h5 with h5; injection h5 with h5 h5'; subst h5; simp only [szSs]; omega
  have e6 : szSs o + 3 * i5 ≤ 3 * i6 := by
   split at h6
   ·exact listP_size (stmtP_size vs f) h6
   ·injection h6 with h6; injection h6 with h6 h6'; subst h6; simp only [szSs]; omega
  have e7 := mustP_ok h7
  simp only [szS]
  omega
end
end
section
open Go.Proofs
mutual
theorem chkE_size {nv : Nat} : ∀ (t : ET) {d k k' : Nat}, chkE nv t d k = .ok k' → k + szE t ≤ k' ∧ k' ≤ 150
 | .mk op v n l, d, k, k', h => by
  simp only [chkE] at h
  obtain ⟨k1, h1, h2⟩ := nextK_ok h
  split at h2
  ·cases h2
  ·obtain ⟨e1, _, e3⟩ := headK_ok h1
   obtain ⟨a, b⟩ := chkEs_size l (k := k1) (by omega) h2
   exact ⟨by simp only [szE]; omega, b⟩
theorem chkEs_size {nv : Nat} : ∀ (l : List ET) {d k k' : Nat}, k ≤ 150 → chkEs nv l d k = .ok k' → k + szEs l ≤ k' ∧ k' ≤ 150
 | [], d, k, k', h0, h => by
  simp only [chkEs] at h
  cases h
  exact ⟨by simp [szEs], h0⟩
 | t :: r, d, k, k', h0, h => by
  simp only [chkEs] at h
  obtain ⟨k1, h1, h2⟩ := nextK_ok h
  obtain ⟨a, b⟩ := chkE_size t h1
  obtain ⟨a', b'⟩ := chkEs_size r b h2
  exact ⟨by simp only [szEs]; omega, b'⟩
end
theorem needE_size {nv : Nat} {q : Bool} {e : ET} {d k k' : Nat} (h0 : k ≤ 150) (hz : q = false → e = zeroT) (h : (if q then chkE nv e d k else .ok k) = .ok k') : 3 * k + szE e ≤ 3 * k' + 1 ∧ k ≤ k' ∧ k' ≤ 150 := by
 cases q with
 | true =>
  obtain ⟨a, b⟩ := chkE_size e h
  exact ⟨by omega, by omega, b⟩
 | false =>
  cases h
  rw [hz rfl]
  exact ⟨by simp [zeroT, szE, szEs], Nat.le_refl _, h0⟩
mutual
theorem chkS_size {nv : Nat} : ∀ (t : ST) {d k k' : Nat}, chkS nv t d k = .ok k' → 3 * k + szS t ≤ 3 * k' ∧ k' ≤ 150
 | .mk op v e f b o, d, k, k', h => by
  simp only [chkS] at h
  obtain ⟨k1, h1, h2⟩ := nextK_ok h
  split at h2
  ·cases h2
  ·rename_i h3
   obtain ⟨k2, h4, h5⟩ := nextK_ok h2
   obtain ⟨k3, h6, h7⟩ := nextK_ok h5
   obtain ⟨k4, h8, h9⟩ := nextK_ok h7
   obtain ⟨e1, _, e3⟩ := headK_ok h1
   obtain ⟨_, _, z1, z2, _⟩ := ownS_inv (by simpa using h3)
   obtain ⟨a1, a2, a3⟩ := needE_size (by omega) z1 h4
   obtain ⟨b1, b2, b3⟩ := needE_size a3 z2 h6
   obtain ⟨c1, c2⟩ := chkSs_size b b3 h8
   obtain ⟨d1, d2⟩ := chkSs_size o c2 h9
   exact ⟨by simp only [szS]; omega, d2⟩
theorem chkSs_size {nv : Nat} : ∀ (l : List ST) {d k k' : Nat}, k ≤ 150 → chkSs nv l d k = .ok k' → 3 * k + szSs l ≤ 3 * k' ∧ k' ≤ 150
 | [], d, k, k', h0, h => by
  simp only [chkSs] at h
  cases h
  exact ⟨by simp [szSs], h0⟩
 | t :: r, d, k, k', h0, h => by
  simp only [chkSs] at h
  obtain ⟨k1, h1, h2⟩ := nextK_ok h
  obtain ⟨a, b⟩ := chkS_size t h1
  obtain ⟨a', b'⟩ := chkSs_size r b h2
  exact ⟨by simp only [szSs]; omega, b'⟩
end
theorem prog_size {vs : List VarT} {body : List ST} (h : progFault vs body = 0) : szSs body ≤ 1000 ∧ vs.length ≤ 100000 := by
 obtain ⟨h8, _, k, hk⟩ := progFault_ok h
 obtain ⟨a, b⟩ := chkSs_size body (by omega) hk
 exact ⟨by omega, by omega⟩
def all64 (l : List Int) : Prop := ∀ v ∈ l, in64 v
theorem in64_0 : in64 0 := by unfold in64; omega
theorem in64_wrap (n : Int) : in64 (IntKind.i64.wrap n) := by
 rw [IntWalk.i64_left]
 unfold in64 RowKit.wrap64
 omega
theorem in64_bit (b : Bool) : in64 (bitI b) := by
 cases b
 ·exact in64_0
 ·unfold in64 bitI; decide
theorem in64_top {l : List Int} (h : all64 l) : in64 (topS l) := by
 unfold topS
 cases e : l with
 | nil => exact in64_0
 | cons a r =>
  rw [← e, List.getLastD_eq_getLast?]
  cases hg : l.getLast? with
  | none => exact in64_0
  | some x => exact h x (List.mem_of_getLast? hg)
theorem in64_getD {l : List Int} (h : all64 l) (k : Nat) : in64 (l.getD k 0) := by
 rw [List.getD_eq_getElem?_getD]
 cases hg : l[k]? with
 | none => exact in64_0
 | some x => exact h x (List.mem_of_getElem? hg)
theorem all64_app {l r : List Int} (h : all64 l) (h' : all64 r) : all64 (l ++ r) := fun v hv => (List.mem_append.1 hv).elim (h v) (h' v)
theorem all64_one {v : Int} (h : in64 v) : all64 [v] := fun u hu => by rw [List.mem_singleton.1 hu]; exact h
theorem all64_drop {l : List Int} (h : all64 l) : all64 l.dropLast := fun v hv => h v (List.dropLast_subset l hv)
theorem all64_set {l : List Int} (h : all64 l) (k : Nat) {v : Int} (hv : in64 v) : all64 (l.set k v) := fun u hu => (List.mem_or_eq_of_mem_set hu).elim (h u) fun e => e ▸ hv
structure Rg (m : Md) (p : Pr) : Prop where
 st : all64 m.stack
 cl : all64 m.cells
 ot : all64 p.1
theorem in64_ari (op z y : Int) : in64 (ariI op z y) := by
 unfold ariI
 repeat' split
 all_goals first | exact in64_wrap _ | exact in64_bit _
theorem rg_ite {c : Prop} [Decidable c] {a b : Md × Pr} (ha : Rg a.1 a.2) (hb : Rg b.1 b.2) : Rg (if c then a else b).1 (if c then a else b).2 := by
 split
 ·exact ha
 ·exact hb
theorem Rg.step {inp : List Int} {x : Is} {m : Md} {p : Pr} (h : Rg m p) (hi : all64 inp) (hx : in64 x.2.2.2) : Rg (exI inp x m p).1 (exI inp x m p).2 := by
 obtain ⟨h1, h2, h3⟩ := h
 have d1 := all64_drop h1
 have t1 := in64_top h1
 have put : all64 (putP p m.out (topS m.stack)).1 := by
  unfold putP
  split
  ·exact all64_app h3 (all64_one t1)
  ·split <;> exact h3
 unfold exI
 repeat' apply rg_ite
 all_goals first
  | exact ⟨h1, h2, h3⟩
  | exact ⟨d1, h2, h3⟩
  | exact ⟨all64_drop d1, h2, h3⟩
  | exact ⟨d1, h2, put⟩
  | exact ⟨all64_app h1 (all64_one hx), h2, h3⟩
  | exact ⟨all64_app h1 (all64_one (in64_getD h2 _)), h2, h3⟩
  | exact ⟨all64_app d1 (all64_one (in64_getD h2 _)), h2, h3⟩
  | exact ⟨all64_app (all64_drop d1) (all64_one (in64_ari _ _ _)), h2, h3⟩
  | exact ⟨d1, all64_set h2 _ t1, h3⟩
  | exact ⟨all64_drop d1, all64_set h2 _ t1, h3⟩
  | exact ⟨h1, all64_set h2 _ (in64_getD hi _), h3⟩
theorem pu_rg {W : List Is} {inp : List Int} {c : Nat} (hW : ∀ x ∈ W, in64 x.2.2.2) (hi : all64 inp) : ∀ n : Nat, Rg (pu W inp c n).1 (pu W inp c n).2
 | 0 => by
  refine ⟨fun v hv => (by cases hv), fun v hv => ?_, fun v hv => (by cases hv)⟩
  rw [show v = 0 from List.eq_of_mem_replicate hv]
  exact in64_0
 | n + 1 => by
  rw [pu_succ]
  unfold stB
  split
  ·refine (pu_rg hW hi n).step hi ?_
   rw [List.getD_eq_getElem?_getD]
   cases hg : W[(pu W inp c n).1.next]? with
   | none => exact in64_0
   | some x => exact hW x (List.mem_of_getElem? hg)
  ·exact pu_rg hW hi n
mutual
theorem insE_rg (vs : List VarT) : ∀ (t : ET), longE t → ∀ x ∈ insE vs t, in64 x.2.2.2
 | .mk op v n l, h, x, hx => by
  simp only [insE, List.mem_append, List.mem_singleton] at hx
  rcases hx with hx | rfl
  ·exact insEs_rg vs l h.2 x hx
  ·exact h.1
theorem insEs_rg (vs : List VarT) : ∀ (l : List ET), longEs l → ∀ x ∈ insEs vs l, in64 x.2.2.2
 | [], _, x, hx => by simp [insEs] at hx
 | t :: r, h, x, hx => by
  simp only [insEs, List.mem_append] at hx
  rcases hx with hx | hx
  ·exact insE_rg vs t h.1 x hx
  ·exact insEs_rg vs r h.2 x hx
end
mutual
theorem insS_rg (vs : List VarT) : ∀ (t : ST) (i0 : Nat), longSt t → ∀ x ∈ insS vs t i0, in64 x.2.2.2
 | .mk op v e f b o, i0, h, x, hx => by
  obtain ⟨h1, h2, h3, h4⟩ := h
  have he : ∀ x ∈ eI vs op e, in64 x.2.2.2 := fun x hx => by
   unfold eI at hx
   split at hx
   ·exact insE_rg vs e h1 x hx
   ·cases hx
  have hf : ∀ x ∈ fI vs op f, in64 x.2.2.2 := fun x hx => by
   unfold fI at hx
   split at hx
   ·exact insE_rg vs f h2 x hx
   ·cases hx
  simp only [insS] at hx
  split at hx
  ·simp only [whileI, List.mem_append, List.mem_cons, List.not_mem_nil, or_false] at hx
   rcases hx with hx | rfl | hx | rfl
   ·exact he x hx
   ·exact in64_0
   ·exact insSs_rg vs b _ h3 x hx
   ·exact in64_0
  ·split at hx
   ·simp only [ifI, List.mem_append, List.mem_cons] at hx
    rcases hx with hx | rfl | hx | rfl | hx
    ·exact he x hx
    ·exact in64_0
    ·exact insSs_rg vs b _ h3 x hx
    ·exact in64_0
    ·exact insSs_rg vs o _ h4 x hx
   ·simp only [List.mem_append, List.mem_singleton] at hx
    rcases hx with hx | hx | rfl
    ·exact he x hx
    ·exact hf x hx
    ·unfold lastI
     repeat' split
     all_goals exact in64_0
theorem insSs_rg (vs : List VarT) : ∀ (l : List ST) (i0 : Nat), longSs l → ∀ x ∈ insSs vs l i0, in64 x.2.2.2
 | [], _, _, x, hx => by simp [insSs] at hx
 | t :: r, i0, h, x, hx => by
  simp only [insSs, List.mem_append] at hx
  rcases hx with hx | hx
  ·exact insS_rg vs t i0 h.1 x hx
  ·exact insSs_rg vs r _ h.2 x hx
end
theorem insP_rg {vs : List VarT} {body : List ST} (h : longSs body) : ∀ x ∈ insP vs body, in64 x.2.2.2 := fun x hx => by
 unfold insP at hx
 rcases List.mem_append.1 hx with hx | hx
 ·exact insSs_rg vs body 0 h x hx
 ·rw [List.mem_singleton.1 hx]
  exact in64_0
theorem InvL.rg {vs : List VarT} {body : List ST} {inp : List Int} {c g : Nat} {x : Lf} (h : InvL (insP vs body) inp c x g) (hb : longSs body) (hi : all64 inp) : all64 x.m.cells ∧ all64 x.p.1 := by
 obtain ⟨a, b, e1, _, e3, _⟩ := h
 rw [e1, e3]
 exact ⟨(pu_rg (insP_rg hb) hi a).cl, (pu_rg (insP_rg hb) hi g).ot⟩
theorem runI_rg {vs : List VarT} {body : List ST} {inp : List Int} (h : progFault vs body = 0) (hb : longSs body) (hi : all64 inp) (fuel : Int) : all64 (runI vs body inp fuel).out ∧ all64 (runI vs body inp fuel).cells ∧ in64 (runI vs body inp fuel).code ∧ in64 (runI vs body inp fuel).used ∧ in64 (runI vs body inp fuel).fault := by
 have nil : all64 [] := fun v hv => by cases hv
 unfold runI
 rw [if_pos h]
 split
 ·obtain ⟨n, m, out, h1, h2, _, _, h4, _, h6, h7⟩ := says_at h (prog_size h).1 inp fuel.toNat
  rw [h7]
  have hr := pu_rg (c := (sumV vs).toNat) (insP_rg (vs := vs) hb) hi n
  rw [h2] at hr
  refine ⟨hr.ot, hr.cl, ?_, ?_, in64_0⟩
  ·simp only [toldX, in64]
   split
   ·omega
   ·split <;> omega
  ·simp only [toldX, in64]
   omega
 ·exact ⟨nil, nil, in64_0, in64_0, by unfold in64; decide⟩
end
section
open Go.Proofs
def wNew : List UInt8 := [110, 101, 119]
def wInput : List UInt8 := [105, 110, 112, 117, 116]
def wBoot : List UInt8 := [98, 111, 111, 116]
def wIdeal : List UInt8 := [105, 100, 101, 97, 108]
def wRun : List UInt8 := [114, 117, 110]
def wCrash : List UInt8 := [99, 114, 97, 115, 104]
def wTear : List UInt8 := [116, 101, 97, 114]
def wNow : List UInt8 := [110, 111, 119]
def wWhat : List UInt8 := [119, 104, 97, 116]
def wNo : List UInt8 := [110, 111]
def wOk : List UInt8 := [111, 107]
def wTook : List UInt8 := [116, 111, 111, 107]
def wDid : List UInt8 := [100, 105, 100]
def wCode : List UInt8 := [99, 111, 100, 101]
def wOut : List UInt8 := [111, 117, 116]
def wCells : List UInt8 := [99, 101, 108, 108, 115]
def numB (ns : List Int) : List UInt8 := ns.flatMap fun n => 32 :: Lib.itoa n
def tellB (w : List UInt8) (ns : List Int) : List UInt8 := w ++ numB ns ++ [10]
def resB (c : Int) (o l : List Int) : List UInt8 := tellB wCode [c] ++ tellB wOut o ++ tellB wCells l
structure Ds where
 txt : List (List UInt8)
 inp : List Int
 lif : Option (List VarT × List ST × List Int × Lf)
 cnt : Nat
def ds0 : Ds := ⟨[], [], none, 0⟩
def numsOf : List (List UInt8) → Option (List Int)
 | [] => some []
 | w :: r => match longOf w with
  | none => none
  | some k => (numsOf r).map (k :: ·)
def withP (d : Ds) (f : List VarT → List ST → Ds × List UInt8) : Ds × List UInt8 :=
 match parseOf (Lib.join d.txt [10]) with
 | .error x => (d, tellB wNo [x.1, x.2])
 | .ok x => f x.1 x.2
def bootD (d : Ds) (vs : List VarT) (body : List ST) : Ds × List UInt8 :=
 if newF vs body d.inp = 0 then ({ d with lif := some (vs, body, d.inp, lf0 (sumV vs).toNat) }, tellB wOk []) else (d, tellB wNo [newF vs body d.inp])
def toldB (r : Told) : List UInt8 := if r.fault = 0 then tellB wTook [r.used] ++ resB r.code r.out r.cells else tellB wNo [r.fault]
def idealD (d : Ds) (fuel : Int) (vs : List VarT) (body : List ST) : Ds × List UInt8 := (d, toldB (runI vs body d.inp fuel))
def spN (s : Sp) : Nat := if 0 < s.2.1 ∧ s.2.1 ≤ 3000 then s.2.1.toNat else 0
def stepD (d : Ds) (s : Sp) : Ds × List UInt8 :=
 match d.lif with
 | none => (d, [])
 | some (vs, body, inp, x) =>
  if spFault s = 0 then ({ d with lif := some (vs, body, inp, (doSp (insP vs body) inp s x).1), cnt := d.cnt + spN s }, tellB wDid [((doSp (insP vs body) inp s x).2 : Nat)]) else (d, tellB wNo [spFault s])
def nowD (d : Ds) : Ds × List UInt8 :=
 match d.lif with
 | none => (d, [])
 | some (_, _, _, x) => (d, resB (codeB x.m x.p) x.p.1 x.m.cells)
def u64I (n : Int) : Nat := (n % 18446744073709551616).toNat
def orderD (d : Ds) (w : List UInt8) (n : List Int) : Option (Ds × List UInt8) :=
 if w = wNew ∧ n.length = 0 then some ({ d with txt := [] }, [])
 else if w = wInput then some ({ d with inp := n }, [])
 else if w = wBoot ∧ n.length = 0 then some (withP d (bootD d))
 else if w = wIdeal ∧ n.length = 1 then some (withP d (idealD d (n.getD 0 0)))
 else if d.lif.isNone = true then none
 else if w = wRun ∧ n.length = 1 then some (stepD d (1, n.getD 0 0, 0, 0))
 else if w = wCrash ∧ n.length = 1 then some (stepD d (2, 0, 0, u64I (n.getD 0 0)))
 else if w = wTear ∧ n.length = 3 then some (stepD d (3, n.getD 0 0, n.getD 1 0, u64I (n.getD 2 0)))
 else if w = wNow ∧ n.length = 0 then some (nowD d)
 else none
def wordD (d : Ds) : List (List UInt8) → Ds × List UInt8
 | [] => (d, [])
 | w :: r => match numsOf r with
  | none => (d, tellB wWhat [])
  | some n => (orderD d w n).getD (d, tellB wWhat [])
def lineD (d : Ds) (l : List UInt8) : Ds × List UInt8 :=
 if l.head? = some 124 then ({ d with txt := d.txt ++ [l.drop 1] }, []) else wordD d (wordsOf l)
def linesD (d : Ds) (ls : List (List UInt8)) : Ds × List UInt8 := ls.foldl (fun s l => ((lineD s.1 l).1, s.2 ++ (lineD s.1 l).2)) (d, [])
theorem linesD_acc (ls : List (List UInt8)) : ∀ (d : Ds) (L : List UInt8), ls.foldl (fun s l => ((lineD s.1 l).1, s.2 ++ (lineD s.1 l).2)) (d, L) = ((linesD d ls).1, L ++ (linesD d ls).2) := by
 induction ls with
 | nil => intro d L; simp [linesD]
 | cons l r ih =>
  intro d L
  unfold linesD
  simp only [List.foldl_cons]
  rw [ih, ih]
  simp
theorem linesD_app (d : Ds) (a b : List (List UInt8)) : linesD d (a ++ b) = ((linesD (linesD d a).1 b).1, (linesD d a).2 ++ (linesD (linesD d a).1 b).2) := by
 conv => lhs; unfold linesD; rw [List.foldl_append]
 exact linesD_acc b _ _
theorem linesD_snoc (d : Ds) (a : List (List UInt8)) (l : List UInt8) : linesD d (a ++ [l]) = ((lineD (linesD d a).1 l).1, (linesD d a).2 ++ (lineD (linesD d a).1 l).2) := by
 rw [linesD_app]
 simp [linesD]
def hasNl (l : List UInt8) : Bool := decide (0 ≤ Lib.indexByte l 10)
def linesFault (ls : List (List UInt8)) : Int × Int :=
 if 150 < ls.length then (3, -1) else match ls.findIdx? hasNl with
  | some i => (14, (i : Nat))
  | none => (0, 0)
def doD (d : Ds) (ls : List (List UInt8)) : Ds × List UInt8 := if (linesFault ls).1 = 0 then linesD d ls else (d, [])
def txtN (t : List (List UInt8)) : Nat := (t.map fun x => x.length + 1).sum
theorem txtN_app (a b : List (List UInt8)) : txtN (a ++ b) = txtN a + txtN b := by simp [txtN]
theorem txtN_len (t : List (List UInt8)) : t.length ≤ txtN t := by
 induction t with
 | nil => simp [txtN]
 | cons x r ih => simp only [txtN, List.map_cons, List.sum_cons, List.length_cons] at ih ⊢; omega
theorem txtN_at {t : List (List UInt8)} {l : List UInt8} (h : l ∈ t) : l.length + 1 ≤ txtN t := by
 induction t with
 | nil => cases h
 | cons x r ih =>
  simp only [txtN, List.map_cons, List.sum_cons] at ih ⊢
  rcases List.mem_cons.1 h with rfl | h
  ·omega
  ·have := ih h; omega
theorem join_len (t : List (List UInt8)) : (Lib.join t [10]).length ≤ txtN t := by
 have tl : ∀ r : List (List UInt8), (Lib.joinTail [10] r).length ≤ txtN r := fun r => by
  induction r with
  | nil => simp [Lib.joinTail, txtN]
  | cons x r ih =>
   simp only [Lib.joinTail, txtN, List.map_cons, List.sum_cons, List.flatten_cons, List.length_append, List.length_cons, List.length_nil] at ih ⊢
   omega
 cases t with
 | nil => simp [Lib.join_nil]
 | cons x r =>
  rw [Lib.join_cons, List.length_append]
  have := tl r
  simp only [txtN, List.map_cons, List.sum_cons] at this ⊢
  omega
def slowN (l : List UInt8) : Nat :=
 match wordsOf l with
 | w :: _ :: _ => if w = wRun ∨ w = wTear ∨ w = wIdeal then 1 else 0
 | _ => 0
def slowS (ls : List (List UInt8)) : Nat := (ls.map slowN).sum
theorem slowS_app (a b : List (List UInt8)) : slowS (a ++ b) = slowS a + slowS b := by simp [slowS]
theorem spN_le (s : Sp) : spN s ≤ 3000 := by unfold spN; split <;> omega
theorem numsOf_some : ∀ {r : List (List UInt8)} {n : List Int}, numsOf r = some n → n.length = r.length ∧ all64 n
 | [], n, h => by
  simp only [numsOf, Option.some.injEq] at h
  subst h
  exact ⟨rfl, fun v hv => by cases hv⟩
 | w :: r, n, h => by
  simp only [numsOf] at h
  split at h
  ·cases h
  ·rename_i k hk
   cases hr : numsOf r with
   | none => rw [hr] at h; cases h
   | some m =>
    rw [hr] at h
    simp only [Option.map_some, Option.some.injEq] at h
    subst h
    obtain ⟨a, b⟩ := numsOf_some hr
    exact ⟨by simp [a], fun v hv => (List.mem_cons.1 hv).elim (fun e => e ▸ ⟨(longOf_some hk).2.1, (longOf_some hk).2.2.1⟩) (b v)⟩
structure DsOk (d : Ds) : Prop where
 ir : all64 d.inp
 lf : ∀ vs body inp x, d.lif = some (vs, body, inp, x) → progFault vs body = 0 ∧ longSs body ∧ inp.length ≤ 40 ∧ all64 inp ∧ ∃ g, g ≤ d.cnt ∧ InvL (insP vs body) inp (sumV vs).toNat x g
theorem dsOk0 : DsOk ds0 := ⟨fun v hv => (by cases hv), fun _ _ _ _ h => (by cases h)⟩
theorem parse_good {l : List UInt8} {x : List VarT × List ST} (h : parseOf l = .ok x) : progFault x.1 x.2 = 0 ∧ longSs x.2 := by
 obtain ⟨ts, h1, _, h3, h4⟩ := parseOf_ok h
 exact ⟨h4, readP_long (scan_long h1) h3⟩
theorem newF_good {vs : List VarT} {body : List ST} {inp : List Int} (hp : progFault vs body = 0) : newF vs body inp = if inp.length ≤ 40 then 0 else 1 := by
 unfold newF
 rw [if_pos hp]
theorem doSp_le {vs : List VarT} {body : List ST} {inp : List Int} {s : Sp} (h : spFault s = 0) (x : Lf) : (doSp (insP vs body) inp s x).2 ≤ spN s := by
 have := doZS_le (nw := fun _ _ _ l => l) (vs := vs) (body := body) (inp := inp) s ⟨x, [], [], 0⟩
 unfold doZS at this
 rw [if_pos h, (doZ_lf s.1 s.2.1.toNat (spKeep s) _).2] at this
 exact this
theorem DsOk.step {d : Ds} (h : DsOk d) (s : Sp) : DsOk (stepD d s).1 := by
 unfold stepD
 split
 ·exact h
 ·rename_i vs body inp x hx
  split
  ·rename_i hf
   refine ⟨h.ir, fun vs' body' inp' x' e => ?_⟩
   simp only [Option.some.injEq, Prod.mk.injEq] at e
   obtain ⟨rfl, rfl, rfl, rfl⟩ := e
   obtain ⟨a1, a2, a3, a4, g, a5, a6⟩ := h.lf _ _ _ _ hx
   obtain ⟨g', b1, b2, b3⟩ := a6.does s.1 s.2.1.toNat (spKeep s)
   have := doSp_le (vs := vs) (body := body) (inp := inp) hf x
   exact ⟨a1, a2, a3, a4, g', by simp only; unfold doSp at this; omega, b3⟩
  ·exact h
theorem DsOk.order {d : Ds} (h : DsOk d) {w : List UInt8} {n : List Int} (hn : all64 n) : ∀ x, orderD d w n = some x → DsOk x.1 := by
 intro x hx
 unfold orderD at hx
 repeat' split at hx
 all_goals first
  | (cases hx; exact h.step _)
  | (cases hx; done)
  | (simp only [Option.some.injEq] at hx; subst hx)
 ·exact ⟨h.ir, h.lf⟩
 ·exact ⟨hn, h.lf⟩
 ·unfold withP
  split
  ·exact h
  ·rename_i y hy
   obtain ⟨g1, g2⟩ := parse_good hy
   unfold bootD
   split
   ·rename_i h0
    rw [newF_good g1] at h0
    split at h0
    ·rename_i hl
     refine ⟨h.ir, fun vs' body' inp' x' e => ?_⟩
     simp only [Option.some.injEq, Prod.mk.injEq] at e
     obtain ⟨rfl, rfl, rfl, rfl⟩ := e
     exact ⟨g1, g2, hl, h.ir, 0, Nat.zero_le _, invL0⟩
    ·cases h0
   ·exact h
 ·unfold withP
  split
  ·exact h
  ·exact h
 ·unfold nowD
  split <;> exact h
theorem order_txt {d : Ds} {w : List UInt8} {n : List Int} : ∀ x, orderD d w n = some x → txtN x.1.txt ≤ txtN d.txt ∧ (x.1.inp = d.inp ∨ x.1.inp = n) ∧ (x.1.cnt = d.cnt ∨ ((w = wRun ∨ w = wTear) ∧ 1 ≤ n.length ∧ x.1.cnt ≤ d.cnt + 3000)) := by
 have st : ∀ s : Sp, txtN (stepD d s).1.txt ≤ txtN d.txt ∧ ((stepD d s).1.inp = d.inp ∨ (stepD d s).1.inp = n) ∧ ((stepD d s).1.cnt = d.cnt ∨ (stepD d s).1.cnt = d.cnt + spN s) := fun s => by
  unfold stepD
  split
  ·exact ⟨Nat.le_refl _, .inl rfl, .inl rfl⟩
  ·split
   ·exact ⟨Nat.le_refl _, .inl rfl, .inr rfl⟩
   ·exact ⟨Nat.le_refl _, .inl rfl, .inl rfl⟩
 have wp : ∀ f : List VarT → List ST → Ds × List UInt8, (∀ vs b, (f vs b).1.txt = d.txt ∧ (f vs b).1.inp = d.inp ∧ (f vs b).1.cnt = d.cnt) → txtN (withP d f).1.txt ≤ txtN d.txt ∧ ((withP d f).1.inp = d.inp ∨ (withP d f).1.inp = n) ∧ ((withP d f).1.cnt = d.cnt ∨ ((w = wRun ∨ w = wTear) ∧ 1 ≤ n.length ∧ (withP d f).1.cnt ≤ d.cnt + 3000)) := fun f hf => by
  unfold withP
  split
  ·exact ⟨Nat.le_refl _, .inl rfl, .inl rfl⟩
  ·rename_i y _
   obtain ⟨a, b, c⟩ := hf y.1 y.2
   exact ⟨by rw [a]; exact Nat.le_refl _, .inl b, .inl c⟩
 intro x hx
 unfold orderD at hx
 repeat' split at hx
 all_goals first
  | (cases hx; done)
  | (simp only [Option.some.injEq] at hx; subst hx)
 ·exact ⟨by simp [txtN], .inl rfl, .inl rfl⟩
 ·exact ⟨Nat.le_refl _, .inr rfl, .inl rfl⟩
 ·exact wp _ fun vs b => by unfold bootD; split <;> exact ⟨rfl, rfl, rfl⟩
 ·exact wp _ fun vs b => ⟨rfl, rfl, rfl⟩
 ·rename_i hw
  obtain ⟨a, b, c⟩ := st (1, n.getD 0 0, 0, 0)
  have := spN_le (1, n.getD 0 0, 0, 0)
  exact ⟨a, b, .inr ⟨.inl hw.1, by omega, by omega⟩⟩
 ·obtain ⟨a, b, c⟩ := st (2, 0, 0, u64I (n.getD 0 0))
  exact ⟨a, b, .inl (by rcases c with c | c <;> simpa [spN] using c)⟩
 ·rename_i hw
  obtain ⟨a, b, c⟩ := st (3, n.getD 0 0, n.getD 1 0, u64I (n.getD 2 0))
  have := spN_le (3, n.getD 0 0, n.getD 1 0, u64I (n.getD 2 0))
  exact ⟨a, b, .inr ⟨.inr hw.1, by omega, by omega⟩⟩
 ·unfold nowD
  split <;> exact ⟨Nat.le_refl _, .inl rfl, .inl rfl⟩
theorem DsOk.line {d : Ds} (h : DsOk d) (l : List UInt8) : DsOk (lineD d l).1 := by
 unfold lineD
 split
 ·exact ⟨h.ir, h.lf⟩
 ·unfold wordD
  split
  ·exact h
  ·split
   ·exact h
   ·rename_i n hn
    cases ho : orderD d _ n with
    | none => exact h
    | some x => exact h.order (numsOf_some hn).2 x ho
theorem line_bnd (d : Ds) (l : List UInt8) : txtN (lineD d l).1.txt ≤ txtN d.txt + l.length ∧ (lineD d l).1.inp.length ≤ max d.inp.length l.length ∧ (lineD d l).1.cnt ≤ d.cnt + 3000 * slowN l := by
 unfold lineD
 split
 ·rename_i h
  refine ⟨?_, Nat.le_max_left _ _, Nat.le_add_right _ _⟩
  have hl : 1 ≤ l.length := by
   cases l with
   | nil => cases h
   | cons c r => simp
  simp only [txtN_app]
  simp only [txtN, List.map_cons, List.map_nil, List.sum_cons, List.sum_nil, List.length_drop]
  omega
 ·cases hw : wordsOf l with
  | nil => exact ⟨Nat.le_add_right _ _, Nat.le_max_left _ _, Nat.le_add_right _ _⟩
  | cons w r =>
   simp only [wordD]
   split
   ·exact ⟨Nat.le_add_right _ _, Nat.le_max_left _ _, Nat.le_add_right _ _⟩
   ·rename_i n hn
    cases ho : orderD d w n with
    | none => exact ⟨Nat.le_add_right _ _, Nat.le_max_left _ _, Nat.le_add_right _ _⟩
    | some x =>
     obtain ⟨a, b, c⟩ := order_txt x ho
     have hnl := (numsOf_some hn).1
     have hwl := (wordsB_len l []).1
     have hwl' : (wordsOf l).length ≤ l.length := by simpa [wordsOf] using hwl
     rw [hw, List.length_cons] at hwl'
     refine ⟨by simp only [Option.getD_some]; omega, ?_, ?_⟩
     ·simp only [Option.getD_some]
      rcases b with b | b
      ·rw [b]; exact Nat.le_max_left _ _
      ·rw [b]; exact Nat.le_trans (by omega) (Nat.le_max_right _ _)
     ·simp only [Option.getD_some]
      rcases c with c | ⟨c1, c2, c3⟩
      ·omega
      ·have : slowN l = 1 := by
        unfold slowN
        rw [hw]
        cases r with
        | nil => rw [hnl] at c2; simp at c2
        | cons y t =>
         simp only
         rw [if_pos (by rcases c1 with c1 | c1 <;> simp [c1])]
       omega
structure Lok (d : Ds) (ls : List (List UInt8)) : Prop where
 ok : DsOk d
 txt : txtN d.txt + txtN ls ≤ 50000
 inp : d.inp.length ≤ 50000
 cnt : d.cnt + 3000 * slowS ls ≤ 300000
theorem Lok.cons {d : Ds} {l : List UInt8} {ls : List (List UInt8)} (h : Lok d (l :: ls)) : Lok (lineD d l).1 ls := by
 obtain ⟨a, b, c⟩ := line_bnd d l
 have h1 := h.txt
 have h2 := h.cnt
 have h3 := h.inp
 simp only [txtN, slowS, List.map_cons, List.sum_cons] at h1 h2
 refine ⟨h.ok.line l, ?_, ?_, ?_⟩
 ·simp only [txtN] at a ⊢; omega
 ·have : max d.inp.length l.length ≤ 50000 := Nat.max_le.2 ⟨h3, by omega⟩
  omega
 ·simp only [slowS]; omega
theorem Lok.app {d : Ds} : ∀ {a b : List (List UInt8)}, Lok d (a ++ b) → Lok (linesD d a).1 b
 | [], b, h => h
 | l :: a, b, h => by
  have := Lok.app (a := a) (b := b) (Lok.cons h)
  rw [show l :: a = [l] ++ a from rfl, linesD_app]
  simpa [linesD] using this
theorem Lok.front {d : Ds} {a b : List (List UInt8)} (h : Lok d (a ++ b)) : Lok d a := by
 have h1 := h.txt
 have h2 := h.cnt
 rw [txtN_app] at h1
 rw [slowS_app] at h2
 exact ⟨h.ok, by omega, h.inp, by omega⟩
theorem numB_len {ns : List Int} (h : all64 ns) : (numB ns).length ≤ 22 * ns.length := by
 induction ns with
 | nil => simp [numB]
 | cons n r ih =>
  have h1 := h n (by simp)
  have h2 := Lib.itoa_length_le n h1.1 h1.2
  have h3 := ih fun v hv => h v (by simp [hv])
  simp only [numB, List.flatMap_cons, List.length_append, List.length_cons] at h3 ⊢
  omega
theorem tellB_len {w : List UInt8} {ns : List Int} (hw : w.length ≤ 5) (h : all64 ns) : (tellB w ns).length ≤ 22 * ns.length + 6 := by
 have := numB_len h
 simp only [tellB, List.length_append, List.length_cons, List.length_nil]
 omega
theorem all64_1 {n : Int} (h : in64 n) : all64 [n] := all64_one h
theorem resB_len {c : Int} {o l : List Int} (hc : in64 c) (ho : all64 o) (hl : all64 l) (h1 : o.length ≤ 300000) (h2 : l.length ≤ 48) : (resB c o l).length ≤ 6700000 := by
 have a := tellB_len (w := wCode) (by decide) (all64_1 hc)
 have b := tellB_len (w := wOut) (by decide) ho
 have e := tellB_len (w := wCells) (by decide) hl
 simp only [resB, List.length_append, List.length_cons, List.length_nil] at a b e ⊢
 omega
end
section
open Go.Proofs
def NF (v : Value) (fp : List Nat) : Prop := ∀ b q n c, v = .slice (some ⟨b, q, none⟩) n c → 0 < n → b ∉ fp
theorem LsV.keepF {w w' : World} {v : Value} {l : List Int} {fp : List Nat} (h : LsV w v l) (hk : Keep fp w w') (hn : NF v fp) : LsV w' v l := by
 obtain ⟨a, k, rfl, h2⟩ := h
 refine ⟨a, k, rfl, fun h0 => ?_⟩
 obtain ⟨b, q, rfl, h3, h4⟩ := h2 h0
 exact ⟨b, q, rfl, Nat.lt_of_lt_of_le h3 hk.size, range_keep h4 hk h3 (hn b q _ k rfl h0)⟩
theorem LsV.nf {w : World} {v : Value} {l : List Int} {fp fp' : List Nat} (h : LsV w v l) (hn : NF v fp) (hf : ∀ k ∈ fp', k ∈ fp ∨ w.heap.size ≤ k) : NF v fp' := fun b q n c he h0 hm => by
 obtain ⟨a, k, rfl, h2⟩ := h
 injection he with e1 e2 e3
 subst e1 e2 e3
 obtain ⟨b', q', e, h3, _⟩ := h2 h0
 cases e
 rcases hf _ hm with h4 | h4
 ·exact hn b q _ _ rfl h0 h4
 ·omega
end
end E
end Go.Proofs.YtoigoojdbpbhoagGreatDoor
