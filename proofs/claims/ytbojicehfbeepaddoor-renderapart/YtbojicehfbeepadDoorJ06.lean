/- Several texts in one: TreeB, PaR, TkC, TkD, RowT, PrtR, CoA, CoB, CoM, CoC. -/
import Derived.Test.YtbojicehfbeepadDoorJ05
import Derived.Test.YtbojicehfbeepadDoorJ03
import Derived.Test.YtbojicehfbeepadDoorJ04
import Derived.Test.YtbojicehfbeepadDoorJ02
/- One statement, one expression of a row, field by field. -/
namespace Go.Proofs.YtbojicehfbeepadDoor
set_option maxRecDepth 20000
set_option maxHeartbeats 4000000
namespace E

theorem range_sub {w : World} {b p : Nat} {cs ds : List Value} (h : w.rangeAt b p cs) (k : Nat) (hd : (cs.drop k).take ds.length = ds) : w.rangeAt b (p + k) ds := fun j u hu => by
  rw [← hd, List.getElem?_take] at hu
  split at hu
  · rw [List.getElem?_drop] at hu
    have := h (k + j) u hu
    rwa [← Nat.add_assoc] at this
  · cases hu

def scells (op v : Int) (ce cf : List Value) (bv ov : Value) : List Value := [.int .i64 op, .int .i64 v] ++ ce ++ cf ++ [bv, ov]

/-- The statement at p of block b, field by field. -/
structure StmtAt (F : Nat → Prop) (w : World) (b p : Nat) (op v : Int) (e f : ET) (lb lo : List ST) (ce cf : List Value) (bv ov : Value) : Prop where
  whole : w.rangeAt b p (scells op v ce cf bv ov)
  cop : w.cell? ⟨b, p + 0, none⟩ = some (.int .i64 op)
  cv : w.cell? ⟨b, p + 1, none⟩ = some (.int .i64 v)
  re : w.rangeAt b (p + 2) ce
  rf : w.rangeAt b (p + 6) cf
  cb : w.cell? ⟨b, p + 10, none⟩ = some bv
  co : w.cell? ⟨b, p + 11, none⟩ = some ov
  he : ExprV F w ce e
  hf : ExprV F w cf f
  hb : StmtsV F w bv lb
  ho : StmtsV F w ov lo
  inF : F b

theorem list4 {cs : List Value} (h : cs.length = 4) : ∃ a b c d, cs = [a, b, c, d] := by
  match cs, h with
  | [a, b, c, d], _ => exact ⟨a, b, c, d, rfl⟩

theorem stmtAt_mk {F : Nat → Prop} {w : World} {b p : Nat} {op v : Int} {e f : ET} {lb lo : List ST} {ce cf : List Value} {bv ov : Value} (h : w.rangeAt b p (scells op v ce cf bv ov)) (hF : F b) (he : ExprV F w ce e) (hf : ExprV F w cf f) (hb : StmtsV F w bv lb) (ho : StmtsV F w ov lo) : StmtAt F w b p op v e f lb lo ce cf bv ov := by
  obtain ⟨a0, a1, a2, a3, rfl⟩ := list4 he.length
  obtain ⟨b0, b1, b2, b3, rfl⟩ := list4 hf.length
  exact ⟨h, h 0 _ rfl, h 1 _ rfl, range_sub h 2 rfl, range_sub h 6 rfl, h 10 _ rfl, h 11 _ rfl, he, hf, hb, ho, hF⟩

theorem StmtsV.stmtAt {F : Nat → Prop} {w : World} {x : Value} {l : List ST} (h : StmtsV F w x l) {i : Nat} {op v : Int} {e f : ET} {lb lo : List ST} (ht : l[i]? = some (.mk op v e f lb lo)) :
    ∃ b q cap ce cf bv ov, x = .slice (some ⟨b, q, none⟩) l.length cap ∧ StmtAt F w b (q + i * 12) op v e f lb lo ce cf bv ov := by
  obtain ⟨b, q, cap, ci, hv, hF, hra, hci⟩ := h.at ht
  obtain ⟨ce, cf, bv, ov, rfl, he, hf, hb, ho⟩ := hci.inv
  exact ⟨b, q, cap, ce, cf, bv, ov, hv, stmtAt_mk hra hF he hf hb ho⟩

theorem StmtAt.keep {F : Nat → Prop} {w w' : World} {b p : Nat} {op v : Int} {e f : ET} {lb lo : List ST} {ce cf : List Value} {bv ov : Value} {fp : List Nat} (h : StmtAt F w b p op v e f lb lo ce cf bv ov) (hk : Keep fp w w') (hs : Stays F w fp) : StmtAt F w' b p op v e f lb lo ce cf bv ov :=
  stmtAt_mk (range_keep h.whole hk (hs b h.inF).1 (hs b h.inF).2) h.inF (h.he.keep hk hs) (h.hf.keep hk hs) (h.hb.keep hk hs) (h.ho.keep hk hs)
theorem StmtAt.stmt {F : Nat → Prop} {w : World} {b p : Nat} {op v : Int} {e f : ET} {lb lo : List ST} {ce cf : List Value} {bv ov : Value} (h : StmtAt F w b p op v e f lb lo ce cf bv ov) : StmtV F w (scells op v ce cf bv ov) (.mk op v e f lb lo) := StmtV.of h.he h.hf h.hb h.ho

/-- The expression at p of block b, field by field. -/
structure ExprAt (F : Nat → Prop) (w : World) (b p : Nat) (op v n : Int) (l : List ET) (lv : Value) : Prop where
  whole : w.rangeAt b p [.int .i64 op, .int .i64 v, .int .i64 n, lv]
  cop : w.cell? ⟨b, p + 0, none⟩ = some (.int .i64 op)
  cv : w.cell? ⟨b, p + 1, none⟩ = some (.int .i64 v)
  cn : w.cell? ⟨b, p + 2, none⟩ = some (.int .i64 n)
  cl : w.cell? ⟨b, p + 3, none⟩ = some lv
  hl : ExprsV F w lv l
  inF : F b
theorem exprAt_mk {F : Nat → Prop} {w : World} {b p : Nat} {op v n : Int} {l : List ET} {lv : Value} (h : w.rangeAt b p [.int .i64 op, .int .i64 v, .int .i64 n, lv]) (hF : F b) (hl : ExprsV F w lv l) : ExprAt F w b p op v n l lv :=
  ⟨h, h 0 _ rfl, h 1 _ rfl, h 2 _ rfl, h 3 _ rfl, hl, hF⟩
theorem ExprsV.exprAt {F : Nat → Prop} {w : World} {x : Value} {l : List ET} (h : ExprsV F w x l) {i : Nat} {op v n : Int} {l' : List ET} (ht : l[i]? = some (.mk op v n l')) :
    ∃ b q cap lv, x = .slice (some ⟨b, q, none⟩) l.length cap ∧ ExprAt F w b (q + i * 4) op v n l' lv := by
  obtain ⟨b, q, cap, ci, hv, hF, hra, hci⟩ := h.at ht
  obtain ⟨lv, rfl, hl⟩ := hci.inv
  exact ⟨b, q, cap, lv, hv, exprAt_mk hra hF hl⟩
theorem ExprAt.expr {F : Nat → Prop} {w : World} {b p : Nat} {op v n : Int} {l : List ET} {lv : Value} (h : ExprAt F w b p op v n l lv) : ExprV F w [.int .i64 op, .int .i64 v, .int .i64 n, lv] (.mk op v n l) := ExprV.of h.hl
end E
end Go.Proofs.YtbojicehfbeepadDoor

/- What Parse tells, and what the laws of package parse take of it. -/
namespace Go.Proofs.YtbojicehfbeepadDoor
set_option maxRecDepth 20000
set_option maxHeartbeats 4000000
namespace E
open Go.Proofs

section
variable {P : Program} {f n : Nat} {k : List Item} {K Kp : Value → World → Prop} {σ : Env} {w : World}
theorem rn_retCC {fn : Func} {t0 t1 ty0 ty1 : Nat} {ad0 ad1 : Addr} {x y : Value} (hf : P.funcs[f]? = some fn) (hr : fn.results = #[.cell t0 ty0, .cell t1 ty1]) (h0 : look σ t0 = some (.pointer (some ad0))) (h1 : look σ t1 = some (.pointer (some ad1))) (hv0 : (loadVar ty0 ad0).run P w = .ok x w) (hv1 : (loadVar ty1 ad1).run P w = .ok y w)
    (hR : K (.tuple #[x, y]) w) : Rn P f n (.code .ret :: k) (endR K Kp) σ w := fun a ha hd =>
  runs_ret hf hd (by simp only [results, hr]; simp [ha.has t0 _ h0, ha.has t1 _ h1, asAddr, hv0, hv1]) hR
end

def pz : List Value := [.slice none 0 0, .slice none 0 0]
theorem zero_pr : ((Tryd.prog.info? 25).bind (·.zero)).map (·.cells) = some pz.toArray := by kernel_rfl
theorem built_pr0 : Tryd.prog.built 25 [] = some pz.toArray := by kernel_rfl
theorem size_pr : sizeOk Tryd.prog 25 2 = true := by kernel_rfl
theorem one_pr (a b : Option Addr) (n c m d : Nat) : ∀ u ∈ [Value.slice a n c, .slice b m d], u.oneCell' = true := by
  intro u hu
  simp only [List.mem_cons, List.not_mem_nil, or_false] at hu
  rcases hu with rfl | rfl <;> rfl
def fltOf {α : Type} : Except Flt α → Flt
  | .ok _ => (0, 0)
  | .error e => e
def prgOf : Except Flt (List VarT × List ST) → List VarT × List ST
  | .ok p => p
  | .error _ => ([], [])
/-- Its statements' slice is no longer than its capacity. -/
def CapV (x : Value) : Prop := ∃ vv a n c, x = .agg #[vv, .slice a n c] ∧ n ≤ c
theorem own_cap {w : World} {B e size n c ln : Nat} {a : Option Addr} {xs : List Value} (h : Own w B e size (.slice a n c) ln xs) : n ≤ c := by
  rcases h.2 with ⟨hv, _⟩ | ⟨g, cap, cur, hv, _, _, hc, _⟩
  · injection hv with _ h1 h2
    omega
  · injection hv with _ h1 h2
    omega
/-- What Parse tells. -/
def ParR (w0 w : World) (r : Value) (X : Except Flt (List VarT × List ST)) : Prop :=
  ∃ (x : Value) (F : Nat → Prop), r = .tuple #[x, .agg #[.int .i64 (fltOf X).1, .int .i64 (fltOf X).2]] ∧ ProgV F w x (prgOf X).1 (prgOf X).2 ∧ CapV x ∧ ∀ c, F c → w0.heap.size ≤ c ∧ c < w.heap.size
theorem capV_nil : CapV (.agg pz.toArray) := ⟨_, none, 0, 0, rfl, Nat.le_refl _⟩
theorem progV_nil {F : Nat → Prop} {w : World} : ProgV F w (.agg pz.toArray) [] [] := ⟨_, _, rfl, ⟨none, 0, rfl, Nat.le_refl _, fun h => absurd h (by simp)⟩, StmtsV.nil⟩

def begunT : List UInt8 := [108, 101, 116, 32, 97, 32, 50, 32, 40, 119, 104, 105, 108, 101, 32, 40, 108, 101, 115, 115, 32, 40, 118, 97, 114, 32, 97, 41, 32, 40, 110, 117, 109, 32, 51] ++ [41, 41, 32, 40, 40, 115, 101, 116, 32, 97, 32, 40, 97, 100, 100, 32, 40, 118, 97, 114, 32, 97, 41, 32, 40, 110, 117, 109, 32, 49, 41, 41, 41, 41, 41]
def begunP : List VarT × List ST := ([(str [97], 2)], [.mk 5 0 (.mk 7 0 0 [.mk 2 0 0 [], .mk 1 0 3 []]) zeroT [.mk 1 0 (.mk 4 0 0 [.mk 2 0 0 [], .mk 1 0 1 []]) zeroT [] []] []])
theorem begun_parse : parseOf begunT = .ok begunP := by kernel_rfl
end E
end Go.Proofs.YtbojicehfbeepadDoor

/- Contract of first: what a text that is not empty begins with. -/
namespace Go.Proofs.YtbojicehfbeepadDoor
set_option maxRecDepth 20000
set_option maxHeartbeats 4000000
namespace E
open Go.Proofs

theorem take_while (p : UInt8 → Bool) : ∀ (l : List UInt8), l.take (l.takeWhile p).length = l.takeWhile p
  | [] => rfl
  | c :: r => by
    by_cases h : p c = true
    · rw [List.takeWhile_cons_of_pos h, List.length_cons, List.take_succ_cons, take_while p r]
    · rw [List.takeWhile_cons_of_neg h]
      rfl
theorem while_le (p : UInt8 → Bool) : ∀ (l : List UInt8), (l.takeWhile p).length ≤ l.length
  | [] => Nat.le_refl _
  | c :: r => by
    have := while_le p r
    by_cases h : p c = true
    · rw [List.takeWhile_cons_of_pos h, List.length_cons, List.length_cons]; omega
    · rw [List.takeWhile_cons_of_neg h]
      exact Nat.zero_le _

section
variable {c : UInt8} {r : List UInt8}
theorem bit_paren (hb : blankB c = false) (hp : parenB c = true) : bit c r = .tok [c] false 0 := by
  unfold bit
  rw [hb, hp]
  rfl
theorem bit_word (hb : blankB c = false) (hp : parenB c = false) (hl : letB c = true) : bit c r = .tok (c :: r.takeWhile letB) false 0 := by
  unfold bit
  rw [hb, hp, hl]
  rfl
theorem bit_num (hb : blankB c = false) (hp : parenB c = false) (hl : letB c = false) (hd : (dig c || c == 45) = true) : bit c r = (match longOf (c :: r.takeWhile dig) with | some v => .tok (c :: r.takeWhile dig) true v | none => .bad) := by
  unfold bit
  rw [hb, hp, hl, hd]
  rfl
theorem bit_none (hb : blankB c = false) (hp : parenB c = false) (hl : letB c = false) (hd : (dig c || c == 45) = false) : bit c r = .bad := by
  unfold bit
  rw [hb, hp, hl, hd]
  rfl
theorem bitV_num (hb : blankB c = false) (hp : parenB c = false) (hl : letB c = false) (hd : (dig c || c == 45) = true) : bitV (bit c r) = numV (c :: r.takeWhile dig) := by
  rw [bit_num hb hp hl hd]
  unfold numV
  cases longOf (c :: r.takeWhile dig) <;> rfl
theorem numV_form (l : List UInt8) : ∃ (cs : List Value) (b : Bool), cs.length = 4 ∧ numV l = .tuple #[.agg cs.toArray, .bool b] ∧ ∀ u ∈ cs, u.oneCell' = true := by
  unfold numV
  cases longOf l with
  | some v => exact ⟨_, _, rfl, rfl, tokC_one _ _ _ _⟩
  | none => exact ⟨_, _, rfl, rfl, tokC_one _ _ _ _⟩
end

end E
end Go.Proofs.YtbojicehfbeepadDoor

/- Contract of Scan. -/
namespace Go.Proofs.YtbojicehfbeepadDoor
set_option maxRecDepth 20000
set_option maxHeartbeats 4000000
namespace E
open Go.Proofs

theorem zero_fault : ((Tryd.prog.info? 30).bind (·.zero)).map (·.cells) = some [Value.int .i64 0, .int .i64 0].toArray := by kernel_rfl
theorem built_fault (a b : Int) : Tryd.prog.built 30 [(0, .int .i64 a), (1, .int .i64 b)] = some [Value.int .i64 a, .int .i64 b].toArray := by kernel_rfl
theorem built_fault0 : Tryd.prog.built 30 [] = some [Value.int .i64 0, .int .i64 0].toArray := by kernel_rfl
theorem size_fault : sizeOk Tryd.prog 30 2 = true := by kernel_rfl
theorem one_fault (a b : Int) : ∀ u ∈ [Value.int .i64 a, .int .i64 b], u.oneCell' = true := by
  intro u hu
  simp only [List.mem_cons, List.not_mem_nil, or_false] at hu
  rcases hu with rfl | rfl <;> rfl
theorem app_tok {w0 w w' : World} {e size ln m g : Nat} {v : Value} {xs : List Value} (hk : Keep [] w0 w) (ho : Own w w0.heap.size e size v ln xs)
    (hor : (v.ownBlock = some g ∧ ln + m ≤ capOf v ∧ Keep [g] w w') ∨ (g = w.heap.size ∧ Keep [] w w' ∧ w'.heap.size = w.heap.size + 1)) : Keep [] w0 w' := by
  rcases hor with ⟨h1, _, h2⟩ | ⟨_, h2, _⟩
  · exact hk.trB h2 (ho.lt g h1).1
  · exact hk.tr h2
theorem app_blk {w w' : World} {ln m g b : Nat} {v : Value} {L : List Value} {t : TypeId} (hb : Blk w b L t) (hne : ∀ k, v.ownBlock = some k → b ≠ k)
    (hor : (v.ownBlock = some g ∧ ln + m ≤ capOf v ∧ Keep [g] w w') ∨ (g = w.heap.size ∧ Keep [] w w' ∧ w'.heap.size = w.heap.size + 1)) : Blk w' b L t := by
  rcases hor with ⟨h1, _, h2⟩ | ⟨_, h2, _⟩
  · exact h2.blk hb (by simp; exact hne g h1)
  · exact h2.blk hb (by simp)
/-- A block of another type is not the row's. -/
theorem own_ne {w : World} {B e size ln b : Nat} {v : Value} {xs L : List Value} {t : TypeId} (ho : Own w B e size v ln xs) (hb : Blk w b L t) (hne : t ≠ e) : ∀ k, v.ownBlock = some k → b ≠ k := by
  intro k hk
  rcases ho.2 with ⟨rfl, _⟩ | ⟨g, cap, cur, rfl, _, hg, _⟩
  · simp [Value.ownBlock] at hk
  · simp [Value.ownBlock] at hk
    subst hk
    exact hb.ne hg hne

theorem size_int : sizeOk Tryd.prog 3 1 = true := by kernel_rfl
end E
end Go.Proofs.YtbojicehfbeepadDoor

/- Rows of expressions and of statements that are being made; what both readers take of the program's types, and of the mathematics of reading. -/
namespace Go.Proofs.YtbojicehfbeepadDoor
set_option maxRecDepth 20000
set_option maxHeartbeats 4000000
namespace E
open Go.Proofs

section
variable {P : Program} {n : Nat} {σ : Env} {o : Oper}
theorem val_eqS {t t' : Nat} {x y : Operand} (a b : List UInt8) (r : Bool) (ho : o.op = .binOp .eql t x y t') (hx : ev σ x = some (.string (str a))) (hy : ev σ y = some (.string (str b))) (hr : (a == b) = r) (w : World) : Val P n σ o w (.bool r) :=
  val_eqStr (str a) (str b) r ho hx hy (by rw [str_toList, str_toList]; exact hr) w
end


theorem nameOk_str (l : List UInt8) : nameOk (str l) = nameB l := by
  unfold nameOk nameB
  rw [str_list, str_size]
  rfl

theorem findV_cons (x : VarT) (r : List VarT) (s : List UInt8) : findV (x :: r) s = if x.1.data.toList == s then some 0 else (findV r s).map (· + 1) := rfl

/-- What is owned is known. -/
theorem Own.eq {w : World} {B e size n : Nat} {v : Value} {xs ys : List Value} (h : Own w B e size v n xs) (h' : Own w B e size v n ys) : xs = ys := by
  rcases h.2 with ⟨_, h1⟩ | ⟨g1, c1, cur1, h1, _, hb1, _, _, ht1⟩
  · have l1 := h.1
    have l2 := h'.1
    rw [h1, Nat.zero_mul] at l1 l2
    have e1 : xs = [] := List.eq_nil_of_length_eq_zero l1
    have e2 : ys = [] := List.eq_nil_of_length_eq_zero l2
    rw [e1, e2]
  · rcases h'.2 with ⟨h2, _⟩ | ⟨g2, c2, cur2, h2, _, hb2, _, _, ht2⟩
    · rw [h2] at h1; cases h1
    · rw [h1] at h2
      injection h2 with h2 _ _
      injection h2 with h2
      injection h2 with h2 _ _
      subst h2
      unfold Blk at hb1 hb2
      rw [hb1] at hb2
      injection hb2 with hb2
      injection hb2 with hb2
      have hcc : cur1 = cur2 := by
        have := congrArg Array.toList hb2
        simpa using this
      rw [← ht1, ← ht2, hcc]
/-- A row of ET that is being made: in blocks from B on. -/
def RowE (w : World) (B : Nat) (v : Value) (l : List ET) : Prop :=
  ∃ (ccs : List (List Value)) (F : Nat → Prop), Own w B 38 4 v ccs.length ccs.flatten ∧ ccs.length = l.length ∧ (∀ i (hi : i < l.length), ExprV F w (ccs.getD i []) (l[i]'hi)) ∧ ∀ c, F c → B ≤ c ∧ c < w.heap.size ∧ v.ownBlock ≠ some c
theorem RowE.nil (w : World) (B : Nat) : RowE w B (.slice none 0 0) [] := ⟨[], fun _ => False, Own.nil _ _ _ _, rfl, fun i hi => by simp at hi, fun c h => h.elim⟩
theorem RowE.own {w : World} {B : Nat} {v : Value} {l : List ET} (h : RowE w B v l) : ∃ xs, Own w B 38 4 v l.length xs := by
  obtain ⟨ccs, F, ho, hl, _⟩ := h
  exact ⟨_, hl ▸ ho⟩
theorem RowE.keep {w w' : World} {B : Nat} {v : Value} {l : List ET} {fp : List Nat} (h : RowE w B v l) (hk : Keep fp w w') (hfp : ∀ c ∈ fp, c < B) : RowE w' B v l := by
  obtain ⟨ccs, F, ho, hl, hc, hF⟩ := h
  refine ⟨ccs, F, ho.keep hk (fun c hc' hm => by have := (ho.lt c hc').1; have := hfp c hm; omega), hl, fun i hi => (hc i hi).keep hk fun c hFc => ⟨(hF c hFc).2.1, fun hm => by have := hfp c hm; have := (hF c hFc).1; omega⟩, fun c hFc => ?_⟩
  have := hF c hFc
  exact ⟨this.1, Nat.lt_of_lt_of_le this.2.1 hk.size, this.2.2⟩
/-- One more, behind an append. -/
theorem RowE.app {w w' : World} {B : Nat} {v : Value} {l : List ET} {cs : List Value} {t : ET} {F' : Nat → Prop} {g cap : Nat} (h : RowE w B v l) (ht : ExprV F' w cs t) (hF' : ∀ c, F' c → B ≤ c ∧ c < w.heap.size ∧ v.ownBlock ≠ some c)
    (hn : ∀ xs, Own w B 38 4 v l.length xs → Own w' B 38 4 (.slice (some ⟨g, 0, none⟩) (l.length + 1) cap) (l.length + 1) (xs ++ cs))
    (hor : (v.ownBlock = some g ∧ l.length + 1 ≤ capOf v ∧ Keep [g] w w') ∨ (g = w.heap.size ∧ Keep [] w w' ∧ w'.heap.size = w.heap.size + 1)) : RowE w' B (.slice (some ⟨g, 0, none⟩) (l.length + 1) cap) (l ++ [t]) := by
  obtain ⟨ccs, F, ho, hl, hc, hF⟩ := h
  have hcs := ht.length
  have hG : ∀ c, F c ∨ F' c → B ≤ c ∧ c < w.heap.size ∧ c ≠ g := by
    intro c hc'
    have h1 : B ≤ c ∧ c < w.heap.size ∧ v.ownBlock ≠ some c := hc'.elim (hF c) (hF' c)
    refine ⟨h1.1, h1.2.1, fun e => ?_⟩
    rcases hor with ⟨h2, _⟩ | ⟨h2, _⟩
    · rw [e] at h1; exact h1.2.2 h2
    · omega
  have hst : ∀ fp, (fp = [g] ∨ fp = []) → Stays (fun c => F c ∨ F' c) w fp := by
    intro fp hfp c hc'
    refine ⟨(hG c hc').2.1, ?_⟩
    rcases hfp with rfl | rfl
    · simp; exact (hG c hc').2.2
    · simp
  have hkk : ∃ fp, (fp = [g] ∨ fp = []) ∧ Keep fp w w' := by
    rcases hor with ⟨_, _, h2⟩ | ⟨_, h2, _⟩
    · exact ⟨_, .inl rfl, h2⟩
    · exact ⟨_, .inr rfl, h2⟩
  obtain ⟨fp, hfp, hk⟩ := hkk
  refine ⟨ccs ++ [cs], fun c => F c ∨ F' c, ?_, by simp [hl], ?_, ?_⟩
  · have := hn _ (hl ▸ ho)
    have e1 : (ccs ++ [cs]).length = l.length + 1 := by simp [hl]
    have e2 : (ccs ++ [cs]).flatten = ccs.flatten ++ cs := by simp
    rw [e1, e2]
    exact this
  · intro i hi
    simp only [List.length_append, List.length_cons, List.length_nil] at hi
    by_cases hlt : i < l.length
    · have e1 : (ccs ++ [cs]).getD i [] = ccs.getD i [] := by
        rw [List.getD_eq_getElem?_getD, List.getD_eq_getElem?_getD, List.getElem?_append_left (by omega)]
      have e2 : (l ++ [t])[i]'(by simp; omega) = l[i] := List.getElem_append_left hlt
      rw [e1, e2]
      exact ((hc i hlt).mono fun c h => .inl h).keep hk (hst fp hfp)
    · obtain rfl : i = l.length := by omega
      have e1 : (ccs ++ [cs]).getD l.length [] = cs := by
        rw [List.getD_eq_getElem?_getD, ← hl, List.getElem?_append_right (Nat.le_refl _)]
        simp
      have e2 : (l ++ [t])[l.length]'(by simp) = t := by simp
      rw [e1, e2]
      exact (ht.mono fun c h => .inr h).keep hk (hst fp hfp)
  · intro c hc'
    have := hG c hc'
    refine ⟨this.1, Nat.lt_of_lt_of_le this.2.1 hk.size, ?_⟩
    show some g ≠ some c
    intro e
    injection e with e
    exact this.2.2 e.symm
theorem RowE.exprs {w : World} {B : Nat} {v : Value} {l : List ET} (h : RowE w B v l) : ∃ F : Nat → Prop, ExprsV F w v l ∧ ∀ c, F c → B ≤ c ∧ c < w.heap.size := by
  obtain ⟨ccs, F, ho, hl, hc, hF⟩ := h
  refine ⟨_, exprs_of_own ho hl hc, ?_⟩
  rintro c (h | h)
  · exact ho.lt c h
  · exact ⟨(hF c h).1, (hF c h).2.1⟩
/-- A row of ST that is being made: in blocks from B on. -/
def RowS (w : World) (B : Nat) (v : Value) (l : List ST) : Prop :=
  ∃ (ccs : List (List Value)) (F : Nat → Prop), Own w B 40 12 v ccs.length ccs.flatten ∧ ccs.length = l.length ∧ (∀ i (hi : i < l.length), StmtV F w (ccs.getD i []) (l[i]'hi)) ∧ ∀ c, F c → B ≤ c ∧ c < w.heap.size ∧ v.ownBlock ≠ some c
theorem RowS.nil (w : World) (B : Nat) : RowS w B (.slice none 0 0) [] := ⟨[], fun _ => False, Own.nil _ _ _ _, rfl, fun i hi => by simp at hi, fun c h => h.elim⟩
theorem RowS.own {w : World} {B : Nat} {v : Value} {l : List ST} (h : RowS w B v l) : ∃ xs, Own w B 40 12 v l.length xs := by
  obtain ⟨ccs, F, ho, hl, _⟩ := h
  exact ⟨_, hl ▸ ho⟩
theorem RowS.keep {w w' : World} {B : Nat} {v : Value} {l : List ST} {fp : List Nat} (h : RowS w B v l) (hk : Keep fp w w') (hfp : ∀ c ∈ fp, c < B) : RowS w' B v l := by
  obtain ⟨ccs, F, ho, hl, hc, hF⟩ := h
  refine ⟨ccs, F, ho.keep hk (fun c hc' hm => by have := (ho.lt c hc').1; have := hfp c hm; omega), hl, fun i hi => (hc i hi).keep hk fun c hFc => ⟨(hF c hFc).2.1, fun hm => by have := hfp c hm; have := (hF c hFc).1; omega⟩, fun c hFc => ?_⟩
  have := hF c hFc
  exact ⟨this.1, Nat.lt_of_lt_of_le this.2.1 hk.size, this.2.2⟩
/-- One more, behind an append. -/
theorem RowS.app {w w' : World} {B : Nat} {v : Value} {l : List ST} {cs : List Value} {t : ST} {F' : Nat → Prop} {g cap : Nat} (h : RowS w B v l) (ht : StmtV F' w cs t) (hF' : ∀ c, F' c → B ≤ c ∧ c < w.heap.size ∧ v.ownBlock ≠ some c)
    (hn : ∀ xs, Own w B 40 12 v l.length xs → Own w' B 40 12 (.slice (some ⟨g, 0, none⟩) (l.length + 1) cap) (l.length + 1) (xs ++ cs))
    (hor : (v.ownBlock = some g ∧ l.length + 1 ≤ capOf v ∧ Keep [g] w w') ∨ (g = w.heap.size ∧ Keep [] w w' ∧ w'.heap.size = w.heap.size + 1)) : RowS w' B (.slice (some ⟨g, 0, none⟩) (l.length + 1) cap) (l ++ [t]) := by
  obtain ⟨ccs, F, ho, hl, hc, hF⟩ := h
  have hcs := ht.length
  have hG : ∀ c, F c ∨ F' c → B ≤ c ∧ c < w.heap.size ∧ c ≠ g := by
    intro c hc'
    have h1 : B ≤ c ∧ c < w.heap.size ∧ v.ownBlock ≠ some c := hc'.elim (hF c) (hF' c)
    refine ⟨h1.1, h1.2.1, fun e => ?_⟩
    rcases hor with ⟨h2, _⟩ | ⟨h2, _⟩
    · rw [e] at h1; exact h1.2.2 h2
    · omega
  have hst : ∀ fp, (fp = [g] ∨ fp = []) → Stays (fun c => F c ∨ F' c) w fp := by
    intro fp hfp c hc'
    refine ⟨(hG c hc').2.1, ?_⟩
    rcases hfp with rfl | rfl
    · simp; exact (hG c hc').2.2
    · simp
  have hkk : ∃ fp, (fp = [g] ∨ fp = []) ∧ Keep fp w w' := by
    rcases hor with ⟨_, _, h2⟩ | ⟨_, h2, _⟩
    · exact ⟨_, .inl rfl, h2⟩
    · exact ⟨_, .inr rfl, h2⟩
  obtain ⟨fp, hfp, hk⟩ := hkk
  refine ⟨ccs ++ [cs], fun c => F c ∨ F' c, ?_, by simp [hl], ?_, ?_⟩
  · have := hn _ (hl ▸ ho)
    have e1 : (ccs ++ [cs]).length = l.length + 1 := by simp [hl]
    have e2 : (ccs ++ [cs]).flatten = ccs.flatten ++ cs := by simp
    rw [e1, e2]
    exact this
  · intro i hi
    simp only [List.length_append, List.length_cons, List.length_nil] at hi
    by_cases hlt : i < l.length
    · have e1 : (ccs ++ [cs]).getD i [] = ccs.getD i [] := by
        rw [List.getD_eq_getElem?_getD, List.getD_eq_getElem?_getD, List.getElem?_append_left (by omega)]
      have e2 : (l ++ [t])[i]'(by simp; omega) = l[i] := List.getElem_append_left hlt
      rw [e1, e2]
      exact ((hc i hlt).mono fun c h => .inl h).keep hk (hst fp hfp)
    · obtain rfl : i = l.length := by omega
      have e1 : (ccs ++ [cs]).getD l.length [] = cs := by
        rw [List.getD_eq_getElem?_getD, ← hl, List.getElem?_append_right (Nat.le_refl _)]
        simp
      have e2 : (l ++ [t])[l.length]'(by simp) = t := by simp
      rw [e1, e2]
      exact (ht.mono fun c h => .inr h).keep hk (hst fp hfp)
  · intro c hc'
    have := hG c hc'
    refine ⟨this.1, Nat.lt_of_lt_of_le this.2.1 hk.size, ?_⟩
    show some g ≠ some c
    intro e
    injection e with e
    exact this.2.2 e.symm
theorem RowS.stmts {w : World} {B : Nat} {v : Value} {l : List ST} (h : RowS w B v l) : ∃ F : Nat → Prop, StmtsV F w v l ∧ ∀ c, F c → B ≤ c ∧ c < w.heap.size := by
  obtain ⟨ccs, F, ho, hl, hc, hF⟩ := h
  refine ⟨_, stmts_of_own ho hl hc, ?_⟩
  rintro c (h | h)
  · exact ho.lt c h
  · exact ⟨(hF c h).1, (hF c h).2.1⟩

theorem zero_ex : ((Tryd.prog.info? 38).bind (·.zero)).map (·.cells) = some [Value.int .i64 0, .int .i64 0, .int .i64 0, .slice none 0 0].toArray := by kernel_rfl
theorem built_expr (op : Int) : Tryd.prog.built 38 [(0, .int .i64 op)] = some [Value.int .i64 op, .int .i64 0, .int .i64 0, .slice none 0 0].toArray := by kernel_rfl
theorem size_expr : sizeOk Tryd.prog 38 4 = true := by kernel_rfl
theorem size_long : sizeOk Tryd.prog 2 1 = true := by kernel_rfl
theorem size_exprs : sizeOk Tryd.prog 36 1 = true := by kernel_rfl
theorem slice_one (a b c d : Value) : sliceCells Tryd.prog 36 1 [(0, .agg #[a, b, c, d])] = some (38, #[a, b, c, d]) := by kernel_rfl
/-- The cells of an expression. -/
def xC (op v n : Int) (sl : Value) : List Value := [.int .i64 op, .int .i64 v, .int .i64 n, sl]
theorem xC_one {op v n : Int} {sl : Value} (h : sl.oneCell' = true) : ∀ u ∈ xC op v n sl, u.oneCell' = true := by
  intro u hu
  simp only [xC, List.mem_cons, List.not_mem_nil, or_false] at hu
  rcases hu with rfl | rfl | rfl | rfl
  · rfl
  · rfl
  · rfl
  · exact h

section
variable (ts : List Tok) (fin : Nat) (vs : List VarT) (one : Nat → Except Flt (ET × Nat))
def rest4 (k : Nat) (n : Int) (v : Nat) (l : List ET) (i4 : Nat) : Except Flt (ET × Nat) := bnd (mustP ts fin [41] i4) fun i5 => .ok (.mk (k : Nat) (v : Nat) n l, i5)
def rest3 (k : Nat) (n : Int) (v i3 : Nat) : Except Flt (ET × Nat) := bnd (manyP one (partsOf (k : Nat)).toNat i3) fun (l, i4) => rest4 ts fin k n v l i4
def rest2 (k : Nat) (n : Int) (i2 : Nat) : Except Flt (ET × Nat) := bnd (if k = 2 ∨ k = 3 then varP ts fin vs i2 else .ok (0, i2)) fun (v, i3) => rest3 ts fin one k n v i3
def rest1 (k i1 : Nat) : Except Flt (ET × Nat) := bnd (if k = 1 then numP ts fin i1 else .ok (0, i1)) fun (n, i2) => rest2 ts fin vs one k n i2
end
theorem exprP_eq (ts : List Tok) (fin : Nat) (vs : List VarT) {f deep : Nat} (h : deep + f = 13) (i : Nat) : exprP ts fin vs f i =
    bnd (bnd (if 12 < deep then .error (wrongAt ts fin 4 i) else .ok i) (beginP ts fin wordT 8)) fun (k, i1) => rest1 ts fin vs (exprP ts fin vs (f - 1)) k i1 := by
  cases f with
  | zero =>
    rw [if_pos (by omega)]
    rfl
  | succ f =>
    rw [if_neg (by omega)]
    rfl
def sndX {α : Type} (x : Except Flt (α × Nat)) : Except Flt Nat := bnd x fun p => .ok p.2


theorem partsOf_range (k : Nat) (h1 : 1 ≤ k) (h8 : k ≤ 8) : 0 ≤ partsOf (k : Nat) ∧ partsOf (k : Nat) ≤ 2 := by
  unfold partsOf
  repeat' split
  all_goals omega


theorem slice_stmt (a b c d e f g h i j k l : Value) : sliceCells Tryd.prog 23 1 [(0, .agg #[a, b, c, d, e, f, g, h, i, j, k, l])] = some (40, #[a, b, c, d, e, f, g, h, i, j, k, l]) := by kernel_rfl
theorem list12 {cs : List Value} (h : cs.length = 12) : ∃ a b c d e f g h i j k l, cs = [a, b, c, d, e, f, g, h, i, j, k, l] := by
  match cs, h with
  | [a, b, c, d, e, f, g, h, i, j, k, l], _ => exact ⟨a, b, c, d, e, f, g, h, i, j, k, l, rfl⟩


def zx : List Value := [.int .i64 0, .int .i64 0, .int .i64 0, .slice none 0 0]
def zst : List Value := scells 0 0 zx zx (.slice none 0 0) (.slice none 0 0)
theorem zero_st : ((Tryd.prog.info? 40).bind (·.zero)).map (·.cells) = some zst.toArray := by kernel_rfl
theorem built_st (op : Int) : Tryd.prog.built 40 [(0, .int .i64 op)] = some (scells op 0 zx zx (.slice none 0 0) (.slice none 0 0)).toArray := by kernel_rfl
theorem size_st : sizeOk Tryd.prog 40 12 = true := by kernel_rfl
theorem size_sts : sizeOk Tryd.prog 23 1 = true := by kernel_rfl

section
variable (ts : List Tok) (fin : Nat) (vs : List VarT) (ex : Nat → Except Flt (ET × Nat)) (one : Nat → Except Flt (ST × Nat))
def st6 (k v : Nat) (e g : ET) (b o : List ST) (i : Nat) : Except Flt (ST × Nat) := bnd (mustP ts fin [41] i) fun i7 => .ok (.mk (k : Nat) (v : Nat) e g b o, i7)
def st5 (k v : Nat) (e g : ET) (b : List ST) (i : Nat) : Except Flt (ST × Nat) := bnd (if needO (k : Nat) then listP ts fin one i else .ok ([], i)) fun (o, i6) => st6 ts fin k v e g b o i6
def st4 (k v : Nat) (e g : ET) (i : Nat) : Except Flt (ST × Nat) := bnd (if needB (k : Nat) then listP ts fin one i else .ok ([], i)) fun (b, i5) => st5 ts fin one k v e g b i5
def st3 (k v : Nat) (e : ET) (i : Nat) : Except Flt (ST × Nat) := bnd (if needF (k : Nat) then ex i else .ok (zeroT, i)) fun (g, i4) => st4 ts fin one k v e g i4
def st2 (k v : Nat) (i : Nat) : Except Flt (ST × Nat) := bnd (if needE (k : Nat) then ex i else .ok (zeroT, i)) fun (e, i3) => st3 ts fin ex one k v e i3
def st1 (k i : Nat) : Except Flt (ST × Nat) := bnd (if needV (k : Nat) then varP ts fin vs i else .ok (0, i)) fun (v, i2) => st2 ts fin ex one k v i2
end
theorem stmtP_eq (ts : List Tok) (fin : Nat) (vs : List VarT) {f deep : Nat} (h : deep + f = 13) (i : Nat) : stmtP ts fin vs f i =
    bnd (bnd (if 12 < deep then .error (wrongAt ts fin 4 i) else .ok i) (beginP ts fin verbT 7)) fun (k, i1) => st1 ts fin vs (exprP ts fin vs (f - 1)) (stmtP ts fin vs (f - 1)) k i1 := by
  cases f with
  | zero =>
    rw [if_pos (by omega)]
    rfl
  | succ f =>
    rw [if_neg (by omega)]
    rfl

/-- The parts of a statement that is being made: in blocks from B on. -/
def Gd (w : World) (B : Nat) (e g : ET) (lb lo : List ST) (ce cf : List Value) (bv ov : Value) : Prop :=
  ∃ F : Nat → Prop, (∀ c, F c → B ≤ c ∧ c < w.heap.size) ∧ ExprV F w ce e ∧ ExprV F w cf g ∧ StmtsV F w bv lb ∧ StmtsV F w ov lo
/-- That the cells are such as cells are. -/
structure Fm (ce cf : List Value) (bv ov : Value) : Prop where
  le : ce.length = 4
  lf : cf.length = 4
  oe : ∀ u ∈ ce, u.oneCell' = true
  of : ∀ u ∈ cf, u.oneCell' = true
  bv : bv.oneCell' = true
  ov : ov.oneCell' = true
section
variable {w w' : World} {B : Nat} {e g : ET} {lb lo : List ST} {ce cf : List Value} {bv ov : Value}
theorem Gd.keep {fp : List Nat} (h : Gd w B e g lb lo ce cf bv ov) (hk : Keep fp w w') (hfp : ∀ c ∈ fp, c < B) : Gd w' B e g lb lo ce cf bv ov := by
  obtain ⟨F, hF, h1, h2, h3, h4⟩ := h
  have hs : Stays F w fp := fun c hc => ⟨(hF c hc).2, fun hm => by have := hfp c hm; have := (hF c hc).1; omega⟩
  exact ⟨F, fun c hc => ⟨(hF c hc).1, Nat.lt_of_lt_of_le (hF c hc).2 hk.size⟩, h1.keep hk hs, h2.keep hk hs, h3.keep hk hs, h4.keep hk hs⟩
theorem zx_v {F : Nat → Prop} : ExprV F w zx zeroT := ExprV.of ExprsV.nil
theorem Gd.zero : Gd w B zeroT zeroT [] [] zx zx (.slice none 0 0) (.slice none 0 0) := ⟨fun _ => False, fun _ h => h.elim, zx_v, zx_v, StmtsV.nil, StmtsV.nil⟩
theorem Fm.zero : Fm zx zx (.slice none 0 0) (.slice none 0 0) :=
  ⟨rfl, rfl, by intro u hu; simp [zx] at hu; rcases hu with rfl | rfl <;> rfl, by intro u hu; simp [zx] at hu; rcases hu with rfl | rfl <;> rfl, rfl, rfl⟩
theorem scells_one {op v : Int} (h : Fm ce cf bv ov) : ∀ u ∈ scells op v ce cf bv ov, u.oneCell' = true := by
  intro u hu
  simp only [scells, List.mem_append, List.mem_cons, List.not_mem_nil, or_false] at hu
  rcases hu with (((rfl | rfl) | hu) | hu) | (rfl | rfl)
  · rfl
  · rfl
  · exact h.oe u hu
  · exact h.of u hu
  · exact h.bv
  · exact h.ov
theorem scells_len {op v : Int} (h : Fm ce cf bv ov) : (scells op v ce cf bv ov).length = 12 := by simp [scells, h.le, h.lf]
end
section
variable {op v : Int} {ce cf : List Value} {bv ov : Value}
theorem sp_v (v' : Int) : splice (scells op v ce cf bv ov) 1 [.int .i64 v'] = scells op v' ce cf bv ov := rfl
theorem sp_e (h : Fm ce cf bv ov) {cs : List Value} (hc : cs.length = 4) : splice (scells op v ce cf bv ov) 2 cs = scells op v cs cf bv ov := by
  obtain ⟨a, b, c, d, rfl⟩ := list4 h.le
  obtain ⟨a', b', c', d', rfl⟩ := list4 h.lf
  obtain ⟨x, y, z, t, rfl⟩ := list4 hc
  rfl
theorem sp_f (h : Fm ce cf bv ov) {cs : List Value} (hc : cs.length = 4) : splice (scells op v ce cf bv ov) 6 cs = scells op v ce cs bv ov := by
  obtain ⟨a, b, c, d, rfl⟩ := list4 h.le
  obtain ⟨a', b', c', d', rfl⟩ := list4 h.lf
  obtain ⟨x, y, z, t, rfl⟩ := list4 hc
  rfl
theorem sp_b (h : Fm ce cf bv ov) (x : Value) : splice (scells op v ce cf bv ov) 10 [x] = scells op v ce cf x ov := by
  obtain ⟨a, b, c, d, rfl⟩ := list4 h.le
  obtain ⟨a', b', c', d', rfl⟩ := list4 h.lf
  rfl
theorem sp_o (h : Fm ce cf bv ov) (x : Value) : splice (scells op v ce cf bv ov) 11 [x] = scells op v ce cf bv x := by
  obtain ⟨a, b, c, d, rfl⟩ := list4 h.le
  obtain ⟨a', b', c', d', rfl⟩ := list4 h.lf
  rfl
end


theorem built_v1 (s : ByteArray) : Tryd.prog.built 35 [(0, .string s)] = some [Value.string s, .int .i64 0].toArray := by kernel_rfl
theorem zero_v : ((Tryd.prog.info? 35).bind (·.zero)).map (·.cells) = some [Value.string ⟨#[]⟩, .int .i64 0].toArray := by kernel_rfl
theorem size_v : sizeOk Tryd.prog 35 2 = true := by kernel_rfl
theorem size_vs : sizeOk Tryd.prog 22 1 = true := by kernel_rfl
theorem slice_v (a b : Value) : sliceCells Tryd.prog 22 1 [(0, .agg #[a, b])] = some (35, #[a, b]) := by kernel_rfl


theorem toks_bound : ∀ {ts : List Tok} {m : Nat}, fine ts → textLen ts ≤ m → ts.length ≤ m ∧ ∀ t ∈ ts, t.text.length ≤ m
  | [], _, _, _ => ⟨Nat.zero_le _, fun t ht => by simp at ht⟩
  | x :: r, m, h, hm => by
    obtain ⟨⟨c, u, r0, h1, _⟩, h2⟩ := h
    simp only [textLen] at hm
    obtain ⟨i1, i2⟩ := toks_bound (m := m - x.text.length) h2 (by omega)
    rw [h1] at hm i1
    simp only [List.length_cons] at hm i1
    refine ⟨by simp only [List.length_cons]; omega, fun t ht => ?_⟩
    rcases List.mem_cons.1 ht with rfl | ht
    · rw [h1]; simp only [List.length_cons]; omega
    · have := i2 t ht
      omega
theorem scan_good {l : List UInt8} (h : (faultOf l).1 = 0) : l.length ≤ 6000 ∧ faultOf l = (0, 0) ∧ (toksOf l).length ≤ l.length ∧ ∀ t ∈ toksOf l, t.text.length ≤ l.length := by
  have hl : l.length ≤ 6000 := by
    by_cases hn : 6000 < l.length
    · unfold faultOf at h
      rw [if_pos hn] at h
      cases h
    · omega
  rcases fault_cases l hl with ⟨e, h1, _⟩ | ⟨ts, h1, h2, h3⟩
  · rw [h1] at h; cases h
  · have ⟨e1, e2⟩ := toks_fine _ _ _ _ h1
    rw [h3]
    exact ⟨hl, h2, toks_bound e1 e2⟩


def finP (vs : List VarT) (b : List ST) : Except Flt (List VarT × List ST) := if progFault vs b ≠ 0 then .error (progFault vs b, -1) else .ok (vs, b)

def restB (ts : List Tok) (fin : Nat) (vs : List VarT) (i : Nat) : Except Flt (List VarT × List ST) := bnd (bodyP ts fin vs i) fun q => finP vs q.1

theorem vars_own {w : World} {B e : Nat} {v : Value} {vs : List VarT} (h : Own w B e 2 v vs.length (vs.flatMap vcell)) : VarsV (fun c => v.ownBlock = some c) w v vs := by
  rcases h.2 with ⟨hv, h0⟩ | ⟨g, cap, cur, hv, hB, hb, hc, hl, ht⟩
  · have : vs = [] := List.eq_nil_of_length_eq_zero h0
    subst this
    exact ⟨none, 0, hv, by simp, fun h => absurd h (by simp)⟩
  · refine ⟨_, cap, hv, hc, fun h0 => ⟨g, 0, rfl, by rw [hv]; rfl, fun i hi => ?_⟩⟩
    have hx : vs[i]? = some vs[i] := List.getElem?_eq_getElem hi
    have hf := flat_at (f := vcell) (k := 2) (fun p _ => rfl) hx
    show w.rangeAt g (0 + i * 2) (vcell (vs.getD i (ByteArray.empty, 0)))
    rw [List.getD_eq_getElem?_getD, hx]
    rw [Nat.zero_add]
    refine hb.range ?_
    show (cur.drop (i * 2)).take 2 = vcell vs[i]
    rw [← hf, ← ht, List.drop_take, List.take_take, Nat.min_eq_left (by omega)]

end E
end Go.Proofs.YtbojicehfbeepadDoor

/- Plain mathematics of printing: a program's print is read as the program; two programs that are told the same are the same. -/
namespace Go.Proofs.YtbojicehfbeepadDoor
set_option maxRecDepth 20000
set_option maxHeartbeats 4000000
namespace E
open Go.Lib

/-! ### The same -/
mutual
theorem eqE_eq : ∀ t t', eqE t t' = true → t = t'
  | .mk op v n l, .mk op' v' n' l', h => by
    simp only [eqE, Bool.and_eq_true, beq_iff_eq] at h
    obtain ⟨⟨⟨rfl, rfl⟩, rfl⟩, h4⟩ := h
    rw [eqEs_eq l l' h4]
theorem eqEs_eq : ∀ l l', eqEs l l' = true → l = l'
  | [], [], _ => rfl
  | [], _ :: _, h => by simp [eqEs] at h
  | _ :: _, [], h => by simp [eqEs] at h
  | t :: r, t' :: r', h => by
    simp only [eqEs, Bool.and_eq_true] at h
    rw [eqE_eq t t' h.1, eqEs_eq r r' h.2]
end
mutual
theorem eqS_eq : ∀ t t', eqS t t' = true → t = t'
  | .mk op v e f b o, .mk op' v' e' f' b' o', h => by
    simp only [eqS, Bool.and_eq_true, beq_iff_eq] at h
    obtain ⟨⟨⟨⟨⟨rfl, rfl⟩, h3⟩, h4⟩, h5⟩, h6⟩ := h
    rw [eqE_eq e e' h3, eqE_eq f f' h4, eqSs_eq b b' h5, eqSs_eq o o' h6]
theorem eqSs_eq : ∀ l l', eqSs l l' = true → l = l'
  | [], [], _ => rfl
  | [], _ :: _, h => by simp [eqSs] at h
  | _ :: _, [], h => by simp [eqSs] at h
  | t :: r, t' :: r', h => by
    simp only [eqSs, Bool.and_eq_true] at h
    rw [eqS_eq t t' h.1, eqSs_eq r r' h.2]
end
theorem bytes_eq {a b : ByteArray} (h : a.toList = b.toList) : a = b := by
  rw [← str_data a, ← str_data b] at h
  rw [str_toList, str_toList] at h
  rw [← str_data a, ← str_data b, h]
theorem eqVs_eq : ∀ l l', eqVs l l' = true → l = l'
  | [], [], _ => rfl
  | [], _ :: _, h => by simp [eqVs] at h
  | _ :: _, [], h => by simp [eqVs] at h
  | (a, x) :: r, (b, y) :: r', h => by
    simp only [eqVs, eqV, Bool.and_eq_true, beq_iff_eq] at h
    obtain ⟨⟨h1, h2⟩, h3⟩ := h
    rw [bytes_eq h1, h2, eqVs_eq r r' h3]
theorem eqP_eq {vs vs' : List VarT} {b b' : List ST} (h : eqP vs b vs' b' = true) : vs = vs' ∧ b = b' := by
  simp only [eqP, Bool.and_eq_true] at h
  exact ⟨eqVs_eq _ _ h.1, eqSs_eq _ _ h.2⟩

/-! ### Variables that are printed -/
def GoodV (vs : List VarT) : Prop := ∀ x ∈ vs, nameB x.1.data.toList = true ∧ 1 ≤ x.2 ∧ x.2 ≤ 48
theorem sc_V : ∀ (vs : List VarT), GoodV vs → ∀ (T : List UInt8) (K : List Tk), Scans T K → Scans (printV vs ++ T) (tokV vs ++ K)
  | [], _, T, K, h => h
  | x :: r, hg, T, K, h => by
    have ih := sc_V r (fun y hy => hg y (List.mem_cons_of_mem _ hy)) T K h
    obtain ⟨h1, h2, h3⟩ := hg x (by simp)
    have hn := nameB_let h1
    have s1 := sc_bl (c := 10) (by decide) ih
    have s2 := sc_num (n := x.2) ⟨by omega, by omega⟩ s1
    have s3 := sc_bl (c := 32) (by decide) s2
    have s4 := sc_word hn.1 hn.2 s3
    have s5 := sc_bl (c := 32) (by decide) s4
    have s6 := sc_word (w := letT) (by decide) (by decide) s5
    simp only [printV, tokV, List.append_assoc, List.cons_append]
    exact s6
section
variable {ts : List Tok} {fin : Nat}
theorem back_V : ∀ (vs : List VarT), GoodV vs → ∀ (i m : Nat), At ts i (tokV vs) → isT ts (i + (tokV vs).length) letT = false → vs.length < m →
    untilP (fun j => !isT ts j letT) (letP ts fin) m i = .ok (vs, i + (tokV vs).length)
  | [], _, i, m, _, hst, hm => by
    obtain ⟨m, rfl⟩ : ∃ m', m = m' + 1 := ⟨m - 1, by simp at hm; omega⟩
    unfold untilP
    have : isT ts i letT = false := by simpa [tokV] using hst
    rw [if_pos (by simp [this])]
    rfl
  | x :: r, hg, i, m, ha, hst, hm => by
    simp only [List.length_cons] at hm
    obtain ⟨m, rfl⟩ : ∃ m', m = m' + 1 := ⟨m - 1, by omega⟩
    obtain ⟨h1, h2, h3⟩ := hg x (by simp)
    rw [tokV] at ha
    obtain ⟨a1, ha⟩ := ha.cons
    obtain ⟨a2, ha⟩ := ha.cons
    obtain ⟨a3, ha⟩ := ha.cons
    have e0 : isT ts i letT = true := by rw [one_is a1]; decide
    have e1 : letP ts fin i = .ok (x, i + 1 + 1 + 1) := by
      unfold letP
      rw [one_name a2 h1]
      simp only [bnd]
      rw [one_num a3]
      simp only [sizeP]
      rw [if_pos ⟨h2, h3⟩, str_data]
    unfold untilP
    rw [if_neg (by simp [e0]), e1]
    simp only [bnd]
    rw [back_V r (fun y hy => hg y (List.mem_cons_of_mem _ hy)) _ m ha (by rw [← hst]; congr 1; simp [tokV]; omega) (by omega)]
    simp only [tokV, List.length_cons]
    congr 2
    omega
end
theorem goodV {vs : List VarT} (h : chkV [] 0 vs = 0) : GoodV vs := fun x hx => ⟨(chkV_names h).1 x hx, (chkV_sizes h).1 x hx⟩

theorem tokV_len : ∀ (vs : List VarT), vs.length ≤ (tokV vs).length
  | [] => Nat.le_refl _
  | x :: r => by
    have := tokV_len r
    simp only [tokV, List.length_cons]
    omega

/-- THERE AND BACK. -/
theorem parse_print {vs : List VarT} {b : List ST} (h : progFault vs b = 0) (hl : longSs b) (hlen : (printV vs ++ printB vs b).length ≤ 6000) : parseOf (printV vs ++ printB vs b) = .ok (vs, b) := by
  obtain ⟨_, hv, k', hc⟩ := progFault_ok h
  have hn := namesOk hv
  have hg := goodV hv
  have hsB := sc_B hn b 0 0 k' hc hl
  obtain ⟨ts, hs, hm⟩ := scans_scan (sc_V vs hg _ _ hsB.1)
  have hat : At ts 0 (tokV vs ++ tokSs vs b) := by
    have := at_tail (ts := []) hm
    simpa using this
  obtain ⟨hat1, hat2⟩ := hat.app
  rw [Nat.zero_add] at hat2
  have htl : ts.length = (tokV vs).length + (tokSs vs b).length := by rw [← List.length_append, ← hm, List.length_map]
  have hend : isT ts (tokV vs).length letT = false := by
    cases b with
    | nil =>
      unfold isT
      rw [List.getElem?_eq_none (by rw [htl]; simp [tokSs])]
    | cons t r =>
      obtain ⟨K, hK⟩ := tokS_head vs t
      rw [tokSs, hK] at hat2
      rw [one_is (w := [40]) hat2.cons.1]
      rfl
  have hvl := tokV_len vs
  have hlets : letsP ts (printV vs ++ printB vs b).length 0 = .ok (vs, (tokV vs).length) := by
    unfold letsP
    have := back_V (ts := ts) (fin := (printV vs ++ printB vs b).length) vs hg 0 (ts.length + 1 - 0) hat1 (by rw [Nat.zero_add]; exact hend) (by omega)
    rw [Nat.zero_add] at this
    exact this
  have hbl := tokSs_len vs b
  have hbody : bodyP ts (printV vs ++ printB vs b).length vs (tokV vs).length = .ok (b, (tokV vs).length + (tokSs vs b).length) := by
    unfold bodyP
    exact back_Ss hn b 0 0 k' 13 (tokV vs).length _ _ hc rfl (by omega) hat2 (fun j ⟨t, ht, _⟩ => by
      have := (List.getElem?_eq_some_iff.1 ht).1
      simp only [decide_eq_false_iff_not]
      omega) (by simp only [decide_eq_true_eq]; omega) (by omega)
  rw [parseOf_mk hs hlen]
  unfold parseT readP
  rw [hlets]
  simp only [bnd]
  rw [hbody]
  simp only [h, ne_eq, not_true_eq_false, if_false]
/-- What Printed tells. -/
def printedOf (vs : List VarT) (b : List ST) : Except Flt (List UInt8) :=
  if progFault vs b ≠ 0 then .error (progFault vs b, -1) else if 6000 < (printV vs ++ printB vs b).length then .error (3, -1) else .ok (printV vs ++ printB vs b)
def txtX : Except Flt (List UInt8) → List UInt8
  | .ok l => l
  | .error _ => []
def fltX : Except Flt (List UInt8) → Flt
  | .ok _ => (0, 0)
  | .error e => e

theorem printed_ok {vs : List VarT} {b : List ST} {l : List UInt8} (h : printedOf vs b = .ok l) : progFault vs b = 0 ∧ l = printV vs ++ printB vs b ∧ l.length ≤ 6000 := by
  unfold printedOf at h
  split at h
  · cases h
  · rename_i h1
    split at h
    · cases h
    · rename_i h2
      injection h with h
      subst h
      exact ⟨by simpa using h1, rfl, by omega⟩
theorem printed_err {vs : List VarT} {b : List ST} {e : Flt} (h : printedOf vs b = .error e) : e.1 ≠ 0 := by
  unfold printedOf at h
  split at h
  · rename_i h1
    injection h with h
    subst h
    exact h1
  · split at h
    · injection h with h
      subst h
      show (3 : Int) ≠ 0
      decide
    · cases h
/-- WHAT IS ANOTHER PROGRAM IS PRINTED OTHERWISE. -/
theorem print_apart {vs vs' : List VarT} {b b' : List ST} {l l' : List UInt8} (h : printedOf vs b = .ok l) (h' : printedOf vs' b' = .ok l') (hl : longSs b) (hl' : longSs b') : (l == l') = eqP vs b vs' b' := by
  obtain ⟨f1, e1, n1⟩ := printed_ok h
  obtain ⟨f2, e2, n2⟩ := printed_ok h'
  rw [Bool.eq_iff_iff]
  constructor
  · intro he
    have he : l = l' := by simpa using he
    have p1 := parse_print f1 hl (by rw [← e1]; exact n1)
    have p2 := parse_print f2 hl' (by rw [← e2]; exact n2)
    rw [← e1] at p1
    rw [← e2, ← he, p1] at p2
    injection p2 with p2
    injection p2 with p3 p4
    rw [p3, p4]
    exact eqP_refl _ _
  · intro he
    obtain ⟨rfl, rfl⟩ := eqP_eq he
    rw [e1, e2]
    simp
end E
end Go.Proofs.YtbojicehfbeepadDoor

/- Contracts of the document's functions that go through a program's trees: how many parts, and whether it is great. -/
namespace Go.Proofs.YtbojicehfbeepadDoor
set_option maxRecDepth 20000
set_option maxHeartbeats 4000000
namespace E
open Go.Proofs


theorem exprParts_ret : ∀ (k : Nat) (t : ET), szE t ≤ k → ∀ {F : Nat → Prop} {w : World} {cs : List Value} (most : Nat), ExprV F w cs t → In F w → most ≤ 900 →
    Ret Tryd.prog 21 [.agg cs.toArray, .int .i64 (most : Nat)] w fun v w' => v = .int .i64 ((min (szE t) (most + 1) : Nat)) ∧ Keep [] w w' := by
  intro k
  induction k with
  | zero => intro t ht; have := szE_pos t; omega
  | succ k ih =>
    intro t ht F w cs most h hF hm
    obtain ⟨op, v, n, l⟩ := t
    obtain ⟨lv, rfl, hl⟩ := h.inv
    obtain ⟨a, cap, rfl⟩ := hl.form
    simp only [szE] at ht ⊢
    refine ret_of 31 Tryd.func21 rfl rfl (by simp) ?_
    refine au ?_
    refine pl_op rfl rfl (opTo_box [.int .i64 op, .int .i64 v, .int .i64 n, .slice a l.length cap] rfl rfl rfl ?_)
    have hk0 : Keep [] w (w.alloc (.cells [.int .i64 op, .int .i64 v, .int .i64 n, .slice a l.length cap].toArray 38)) := (Keep.refl _ _).alloc _
    have hb0 : Blk (w.alloc (.cells [.int .i64 op, .int .i64 v, .int .i64 n, .slice a l.length cap].toArray 38)) w.heap.size [.int .i64 op, .int .i64 v, .int .i64 n, .slice a l.length cap] 38 := Blk.new _ _ _
    generalize (w.alloc (.cells [.int .i64 op, .int .i64 v, .int .i64 n, .slice a l.length cap].toArray 38)) = w1 at *
    generalize w.heap.size = b at *
    refine au ?_
    refine rn_ind (fun m σ w' => ∃ i nn : Nat, i ≤ l.length ∧ m = l.length - i ∧ σ = [(1, .int .i64 (most : Nat)), (2, .pointer (some ⟨b, 0, none⟩)), (5, .int .i64 (nn : Nat)), (6, .int .i64 (i : Nat))] ∧ nn = min (1 + szEs (l.take i)) (most + 1) ∧
      Blk w' b [.int .i64 op, .int .i64 v, .int .i64 n, .slice a l.length cap] 38 ∧ Keep [] w w') l.length _ ?_ ⟨0, 1, by omega, by omega, rfl, by simp [szEs], hb0, hk0⟩ ?_
    · exact ⟨rfl, rfl, rfl, rfl, trivial⟩
    rintro m σ w2 ih2 ⟨i, nn, hi, rfl, rfl, hn, hb2, hk2⟩
    refine au ?_
    refine pl_val _ rfl rfl (val_load1 hT rfl rfl rfl (hb2.cell rfl)) ?_
    refine au ?_
    have hle := szEs_take l i
    have hge := szEs_ge hi
    by_cases hlt : i < l.length
    · refine ye ?_
      refine au ?_
      by_cases hnm : nn ≤ most
      · refine ye ?_
        refine au ?_
        refine pl_val _ rfl rfl (val_load1 hT rfl rfl rfl (hb2.cell rfl)) ?_
        refine au ?_
        have hget : l[i]? = some l[i] := List.getElem?_eq_getElem hlt
        obtain ⟨bb, q, cap', ci, hv, _, hra, hci⟩ := (hl.keep hk2 hF.stays).at hget
        cases hv
        refine pl_val _ rfl rfl (val_index i hT rfl rfl rfl rfl rfl hlt w2) ?_
        refine pl_val (.agg ci.toArray) rfl rfl (val_load ci hT rfl rfl (by rw [hci.length]; rfl) hra) ?_
        refine au ?_
        refine pl_num (((most - nn : Nat) : Int)) rfl rfl rfl rfl rfl (by simp only [ariP]; omega) ?_
        have hsz := szEs_at hget
        have hsu := szEs_succ hget
        refine pl_op rfl rfl (opTo_call rfl rfl rfl rfl (by decide +kernel) ((ih l[i] (by omega) (most - nn) hci (hF.keep hk2) (by omega)).mono ?_))
        rintro v3 w3 ⟨rfl, hk3⟩
        refine pl_num (((nn + min (szE l[i]) (most - nn + 1) : Nat) : Int)) rfl rfl rfl rfl rfl (by simp only [ariP]; omega) ?_
        refine au ?_
        refine pl_num (((i + 1 : Nat) : Int)) rfl rfl rfl rfl rfl (by simp only [ariP]; omega) ?_
        refine au ?_
        refine rn_sub ?_ (ih2 (l.length - (i + 1)) [(1, .int .i64 (most : Nat)), (2, .pointer (some ⟨b, 0, none⟩)), (5, .int .i64 ((nn + min (szE l[i]) (most - nn + 1) : Nat) : Int)), (6, .int .i64 ((i + 1 : Nat) : Int))] w3 (by omega)
          ⟨i + 1, _, by omega, rfl, rfl, by omega, hk3.blk hb2 (by simp), hk2.tr hk3⟩)
        exact ⟨rfl, rfl, rfl, rfl, trivial⟩
      · refine nay ?_
        refine au ?_
        refine rn_ret Tryd.func21 (.inl ⟨_, rfl, rfl⟩) ⟨?_, hk2⟩
        congr 1
        omega
    · refine nay ?_
      refine au ?_
      refine rn_ret Tryd.func21 (.inl ⟨_, rfl, rfl⟩) ⟨?_, hk2⟩
      have : l.take i = l := List.take_of_length_le (by omega)
      rw [this] at hn
      congr 1
      omega

/-- As many as they are, as far as so many. -/
def Cnt (s most x : Nat) : Prop := (s ≤ most → x = s) ∧ (most < s → most < x) ∧ x ≤ 2 * most + 3

theorem stmtParts_ret : ∀ (k : Nat) (l : List ST), szSs l < k → ∀ {F : Nat → Prop} {w : World} {x : Value} (most : Nat), StmtsV F w x l → In F w → most ≤ 900 →
    Ret Tryd.prog 11 [x, .int .i64 (most : Nat)] w fun v w' => ∃ c : Nat, v = .int .i64 (c : Nat) ∧ Cnt (szSs l) most c ∧ Keep [] w w' := by
  intro k
  induction k with
  | zero => intro l ht; omega
  | succ k ih =>
    intro l ht F w x most h hF hm
    obtain ⟨a, cap, rfl⟩ := h.form
    refine ret_of 69 Tryd.func11 rfl rfl (by simp) ?_
    refine au ?_
    refine rn_ind (fun m σ w' => ∃ i nn : Nat, i ≤ l.length ∧ m = l.length - i ∧ σ = [(0, .slice a l.length cap), (1, .int .i64 (most : Nat)), (5, .int .i64 (nn : Nat)), (6, .int .i64 (i : Nat))] ∧ Cnt (szSs (l.take i)) most nn ∧ Keep [] w w')
      l.length _ ?_ ⟨0, 0, by omega, by omega, rfl, by simp [szSs, Cnt], Keep.refl _ _⟩ ?_
    · exact ⟨rfl, rfl, rfl, rfl, trivial⟩
    rintro m σ w2 ih2 ⟨i, nn, hi, rfl, rfl, ⟨hn1, hn2, hn3⟩, hk2⟩
    refine au ?_
    have hle := szSs_take l i
    have hge := szSs_ge hi
    by_cases hlt : i < l.length
    · refine ye ?_
      refine au ?_
      by_cases hnm : nn ≤ most
      · refine ye ?_
        refine au ?_
        have hget : l[i]? = some l[i] := List.getElem?_eq_getElem hlt
        have hsz := szSs_at hget
        have hsu := szSs_succ hget
        obtain ⟨op, v, e, f, lb, lo, hs⟩ : ∃ op v e f lb lo, l[i] = ST.mk op v e f lb lo := by cases l[i]; exact ⟨_, _, _, _, _, _, rfl⟩
        rw [hs] at hget hsz hsu
        simp only [szS] at hsz hsu
        obtain ⟨bb, q, cap', ce, cf, bv, ov, hv, hst⟩ := (h.keep hk2 hF.stays).stmtAt hget
        cases hv
        have hF2 := hF.keep hk2
        refine rn_draw (fun w' => Keep [] w2 w') [] hMix ?_
        have hS : Keep [] w2 w2.drew := (Keep.refl _ _).drew
        generalize w2.drew = w3 at *
        refine tk 0 ?_
        refine tk 1 ?_
        refine tk 2 ?_
        refine dr_any 3 _ rfl (by decide +kernel) rfl rfl (fun w => val_index i hT rfl rfl rfl rfl rfl hlt w) ?_
        refine tk 4 ?_
        refine dr_val 5 (.agg ce.toArray) rfl (by decide +kernel) rfl rfl (fun w' hS => val_load ce hT rfl rfl (by rw [hst.he.length]; rfl) (hst.keep hS hF2.stays).re) hS ?_
        refine tk 6 ?_
        refine tk 7 ?_
        refine dr_num 8 (((most - nn : Nat) : Int)) rfl (by decide +kernel) rfl rfl rfl rfl rfl (by simp only [ariP]; omega) ?_
        refine tk 11 ?_
        refine tk 12 ?_
        refine dr_any 13 _ rfl (by decide +kernel) rfl rfl (fun w => val_index i hT rfl rfl rfl rfl rfl hlt w) ?_
        refine tk 14 ?_
        refine dr_val 15 (.agg cf.toArray) rfl (by decide +kernel) rfl rfl (fun w' hS => val_load cf hT rfl rfl (by rw [hst.hf.length]; rfl) (hst.keep hS hF2.stays).rf) hS ?_
        refine tk 16 ?_
        refine tk 17 ?_
        refine dr_num 18 (((most - nn : Nat) : Int)) rfl (by decide +kernel) rfl rfl rfl rfl rfl (by simp only [ariP]; omega) ?_
        refine dr_op 9 rfl (by decide +kernel) rfl rfl (opTo_call rfl rfl rfl rfl (by decide +kernel) ((exprParts_ret _ e (Nat.le_refl _) (most - nn) (hst.keep hS hF2.stays).he (hF2.keep hS) (by omega)).mono ?_))
        rintro v4 w4 ⟨rfl, hk4⟩
        replace hS := hS.tr hk4
        refine ⟨fun _ => hS, ?_⟩
        refine dr_num 10 (((1 + min (szE e) (most - nn + 1) : Nat) : Int)) rfl (by decide +kernel) rfl rfl rfl rfl rfl (by simp only [ariP]; omega) ?_
        refine dr_op 19 rfl (by decide +kernel) rfl rfl (opTo_call rfl rfl rfl rfl (by decide +kernel) ((exprParts_ret _ f (Nat.le_refl _) (most - nn) (hst.keep hS hF2.stays).hf (hF2.keep hS) (by omega)).mono ?_))
        rintro v5 w5 ⟨rfl, hk5⟩
        replace hS := hS.tr hk5
        refine ⟨fun _ => hS, ?_⟩
        refine dr_num 20 (((1 + min (szE e) (most - nn + 1) + min (szE f) (most - nn + 1) : Nat) : Int)) rfl (by decide +kernel) rfl rfl rfl rfl rfl (by simp only [ariP]; omega) ?_
        refine dr_num 21 (((nn + (1 + min (szE e) (most - nn + 1) + min (szE f) (most - nn + 1)) : Nat) : Int)) rfl (by decide +kernel) rfl rfl rfl rfl rfl (by simp only [ariP]; omega) ?_
        refine tk 22 ?_
        refine dr_done (by decide +kernel) ?_
        replace hst := hst.keep hS hF2.stays
        replace hF2 := hF2.keep hS
        replace hk2 := hk2.tr hS
        have hc : Cnt (szSs (l.take i) + (1 + szE e + szE f)) most (nn + (1 + min (szE e) (most - nn + 1) + min (szE f) (most - nn + 1))) := by
          refine ⟨fun h => ?_, fun h => ?_, ?_⟩ <;> omega
        generalize nn + (1 + min (szE e) (most - nn + 1) + min (szE f) (most - nn + 1)) = n1 at *
        obtain ⟨hc1, hc2, hc3⟩ := hc
        refine au ?_
        by_cases h1 : n1 ≤ most
        · refine ye ?_
          refine au ?_
          refine pl_val _ rfl rfl (val_index i hT rfl rfl rfl rfl rfl hlt w5) ?_
          refine au ?_
          refine pl_val _ rfl rfl (val_load1 hT rfl rfl rfl (hst.cb)) ?_
          refine au ?_
          refine pl_num (((most - n1 : Nat) : Int)) rfl rfl rfl rfl rfl (by simp only [ariP]; omega) ?_
          refine pl_op rfl rfl (opTo_call rfl rfl rfl rfl (by decide +kernel) ((ih lb (by omega) (most - n1) hst.hb hF2 (by omega)).mono ?_))
          rintro v6 w6 ⟨c6, rfl, ⟨hd1, hd2, hd3⟩, hk6⟩
          refine pl_num (((n1 + c6 : Nat) : Int)) rfl rfl rfl rfl rfl (by simp only [ariP]; omega) ?_
          refine au ?_
          replace hst := hst.keep hk6 hF2.stays
          replace hF2 := hF2.keep hk6
          replace hk2 := hk2.tr hk6
          by_cases h2 : n1 + c6 ≤ most
          · refine ye ?_
            refine au ?_
            refine pl_val _ rfl rfl (val_index i hT rfl rfl rfl rfl rfl hlt w6) ?_
            refine au ?_
            refine pl_val _ rfl rfl (val_load1 hT rfl rfl rfl (hst.co)) ?_
            refine au ?_
            refine pl_num (((most - (n1 + c6) : Nat) : Int)) rfl rfl rfl rfl rfl (by simp only [ariP]; omega) ?_
            refine pl_op rfl rfl (opTo_call rfl rfl rfl rfl (by decide +kernel) ((ih lo (by omega) (most - (n1 + c6)) hst.ho hF2 (by omega)).mono ?_))
            rintro v7 w7 ⟨c7, rfl, ⟨he1, he2, he3⟩, hk7⟩
            refine pl_num (((n1 + c6 + c7 : Nat) : Int)) rfl rfl rfl rfl rfl (by simp only [ariP]; omega) ?_
            refine au ?_
            refine pl_num (((i + 1 : Nat) : Int)) rfl rfl rfl rfl rfl (by simp only [ariP]; omega) ?_
            refine au ?_
            refine rn_sub ?_ (ih2 (l.length - (i + 1)) [(0, .slice (some ⟨bb, q, none⟩) l.length cap), (1, .int .i64 (most : Nat)), (5, .int .i64 ((n1 + c6 + c7 : Nat) : Int)), (6, .int .i64 ((i + 1 : Nat) : Int))] w7 (by omega)
              ⟨i + 1, _, by omega, rfl, rfl, ?_, hk2.tr hk7⟩)
            · exact ⟨rfl, rfl, rfl, rfl, trivial⟩
            · refine ⟨fun h => ?_, fun h => ?_, ?_⟩ <;> omega
          · refine nay ?_
            refine au ?_
            refine pl_num (((i + 1 : Nat) : Int)) rfl rfl rfl rfl rfl (by simp only [ariP]; omega) ?_
            refine au ?_
            refine rn_sub ?_ (ih2 (l.length - (i + 1)) [(0, .slice (some ⟨bb, q, none⟩) l.length cap), (1, .int .i64 (most : Nat)), (5, .int .i64 ((n1 + c6 : Nat) : Int)), (6, .int .i64 ((i + 1 : Nat) : Int))] w6 (by omega)
              ⟨i + 1, _, by omega, rfl, rfl, ?_, hk2⟩)
            · exact ⟨rfl, rfl, rfl, rfl, trivial⟩
            · refine ⟨fun h => ?_, fun h => ?_, ?_⟩ <;> omega
        · refine nay ?_
          refine au ?_
          refine nay ?_
          refine au ?_
          refine pl_num (((i + 1 : Nat) : Int)) rfl rfl rfl rfl rfl (by simp only [ariP]; omega) ?_
          refine au ?_
          refine rn_sub ?_ (ih2 (l.length - (i + 1)) [(0, .slice (some ⟨bb, q, none⟩) l.length cap), (1, .int .i64 (most : Nat)), (5, .int .i64 ((n1 : Nat) : Int)), (6, .int .i64 ((i + 1 : Nat) : Int))] w5 (by omega)
              ⟨i + 1, _, by omega, rfl, rfl, ?_, hk2⟩)
          · exact ⟨rfl, rfl, rfl, rfl, trivial⟩
          · refine ⟨fun h => ?_, fun h => ?_, ?_⟩ <;> omega
      · refine nay ?_
        refine au ?_
        refine rn_ret Tryd.func11 (.inl ⟨_, rfl, rfl⟩) ⟨nn, rfl, ?_, hk2⟩
        refine ⟨fun h => ?_, fun h => ?_, ?_⟩ <;> omega
    · refine nay ?_
      refine au ?_
      refine rn_ret Tryd.func11 (.inl ⟨_, rfl, rfl⟩) ⟨nn, rfl, ?_, hk2⟩
      have : l.take i = l := List.take_of_length_le (by omega)
      rw [this] at hn1 hn2
      exact ⟨hn1, hn2, hn3⟩
end E
end Go.Proofs.YtbojicehfbeepadDoor

/- Contracts of package code's smallest functions: what a kind has, what a name is. -/
namespace Go.Proofs.YtbojicehfbeepadDoor
set_option maxRecDepth 20000
set_option maxHeartbeats 4000000
namespace E
open Go.Proofs

theorem parts_ret (op : Int) (w : World) : Ret Tryd.prog 70 [.int .i64 op] w fun v w' => v = .int .i64 (partsOf op) ∧ w' = w := by
  refine ret_of 20 Tryd.func70 rfl rfl (by simp) ?_
  have h : op < 1 ∨ op > 8 ∨ op = 1 ∨ op = 2 ∨ op = 3 ∨ (4 ≤ op ∧ op ≤ 8) := by omega
  rcases h with h | h | h | h | h | h <;> (refine aub ?_; refine rn_ret Tryd.func70 (.inl ⟨_, rfl, rfl⟩) ⟨?_, rfl⟩; congr 1; (unfold partsOf; repeat' split) <;> omega)

def hasV (op : Int) : Value := .tuple #[.bool (needE op), .bool (needF op), .bool (needV op), .bool (needB op), .bool (needO op)]

theorem has_ret (op : Int) (w : World) : Ret Tryd.prog 46 [.int .i64 op] w fun v w' => v = hasV op ∧ w' = w := by
  refine ret_of 20 Tryd.func46 rfl rfl (by simp) ?_
  have h : op = 1 ∨ op = 2 ∨ op = 3 ∨ op = 4 ∨ op = 5 ∨ op = 6 ∨ (op ≠ 1 ∧ op ≠ 2 ∧ op ≠ 3 ∧ op ≠ 4 ∧ op ≠ 5 ∧ op ≠ 6) := by omega
  rcases h with h | h | h | h | h | h | h
  · subst h; refine aub ?_; exact rn_ret5 Tryd.func46 rfl rfl rfl rfl rfl rfl ⟨rfl, rfl⟩
  · subst h; refine aub ?_; exact rn_ret5 Tryd.func46 rfl rfl rfl rfl rfl rfl ⟨rfl, rfl⟩
  · subst h; refine aub ?_; exact rn_ret5 Tryd.func46 rfl rfl rfl rfl rfl rfl ⟨rfl, rfl⟩
  · subst h; refine aub ?_; exact rn_ret5 Tryd.func46 rfl rfl rfl rfl rfl rfl ⟨rfl, rfl⟩
  · subst h; refine aub ?_; exact rn_ret5 Tryd.func46 rfl rfl rfl rfl rfl rfl ⟨rfl, rfl⟩
  · subst h; refine aub ?_; exact rn_ret5 Tryd.func46 rfl rfl rfl rfl rfl rfl ⟨rfl, rfl⟩
  · refine aub ?_
    refine rn_ret5 Tryd.func46 rfl rfl rfl rfl rfl rfl ⟨?_, rfl⟩
    simp [hasV, needE, needF, needV, needB, needO, h]

theorem str_at {s : ByteArray} {j : Nat} (h : j < s.size) : s[j]? = some (s.data.toList[j]'(by simpa using h)) := by
  rw [getElem?_pos s j h]
  rfl

theorem all_take_succ {l : List UInt8} {i : Nat} (h : i < l.length) : (l.take (i + 1)).all letter = ((l.take i).all letter && letter l[i]) := by
  rw [List.take_succ_eq_append_getElem h, List.all_append]
  simp only [List.all_cons, List.all_nil, Bool.and_true]
theorem all_take_false {l : List UInt8} {i : Nat} (h : i < l.length) (hl : letter l[i] = false) : l.all letter = false := by
  rw [List.all_eq_false]
  exact ⟨l[i], List.getElem_mem h, by simp [hl]⟩

theorem name_ret (s : ByteArray) (w : World) : Ret Tryd.prog 38 [.string s] w fun v w' => v = .bool (nameOk s) ∧ w' = w := by
  refine ret_of 28 Tryd.func38 rfl rfl (by simp) ?_
  refine au ?_
  refine pl_val _ rfl rfl (val_strLen s (by decide +kernel) rfl rfl w) ?_
  by_cases h1 : s.size < 1
  · refine aub ?_
    refine rn_ret Tryd.func38 (.inl ⟨_, rfl, rfl⟩) ⟨?_, rfl⟩
    have : ¬ 1 ≤ s.size := by omega
    simp [nameOk, this]
  · refine aub ?_
    refine pl_val _ rfl rfl (val_strLen s (by decide +kernel) rfl rfl w) ?_
    by_cases h2 : s.size > 8
    · refine aub ?_
      refine rn_ret Tryd.func38 (.inl ⟨_, rfl, rfl⟩) ⟨?_, rfl⟩
      have : ¬ s.size ≤ 8 := by omega
      simp [nameOk, this]
    · refine aub ?_
      refine pl_val _ rfl rfl (val_strLen s (by decide +kernel) rfl rfl w) ?_
      refine au ?_
      have hsz : s.data.toList.length = s.size := by simp
      refine rn_ind (fun m σ w' => ∃ i : Nat, i ≤ s.size ∧ m = s.size - i ∧ σ = [(0, .string s), (13, .int .i64 (s.size : Nat)), (14, .int .i64 (i : Nat))] ∧ (s.data.toList.take i).all letter = true ∧ w' = w) s.size _ ?_ ⟨0, by omega, by omega, rfl, by simp, rfl⟩ ?_
      · exact ⟨rfl, rfl, rfl, trivial⟩
      rintro m σ w2 ih ⟨i, hi, rfl, rfl, hall, rfl⟩
      by_cases hlt : i < s.size
      · refine aub ?_
        have hat := str_at hlt
        have hs := all_take_succ (l := s.data.toList) (i := i) (by omega)
        have hf := all_take_false (l := s.data.toList) (i := i) (by omega)
        generalize s.data.toList[i]'(by omega) = c at *
        refine pl_val _ rfl rfl (val_strAt s i c (by decide +kernel) rfl rfl rfl rfl hat w2) ?_
        by_cases h3 : c.toNat < 97
        · refine aub ?_
          refine rn_ret Tryd.func38 (.inl ⟨_, rfl, rfl⟩) ⟨?_, rfl⟩
          rw [nameOk, hf (by simp [letter]; omega)]
          rfl
        · refine aub ?_
          refine pl_val _ rfl rfl (val_strAt s i c (by decide +kernel) rfl rfl rfl rfl hat w2) ?_
          by_cases h4 : c.toNat > 122
          · refine aub ?_
            refine rn_ret Tryd.func38 (.inl ⟨_, rfl, rfl⟩) ⟨?_, rfl⟩
            rw [nameOk, hf (by simp [letter]; omega)]
            rfl
          · refine aub ?_
            refine pl_num (((i + 1 : Nat) : Int)) rfl rfl rfl rfl rfl (by simp only [ariP]; omega) ?_
            refine au ?_
            refine rn_sub ?_ (ih (s.size - (i + 1)) [(0, .string s), (13, .int .i64 (s.size : Nat)), (14, .int .i64 ((i + 1 : Nat) : Int))] w2 (by omega) ⟨i + 1, by omega, rfl, rfl, ?_, rfl⟩)
            · exact ⟨rfl, rfl, rfl, trivial⟩
            · rw [hs, hall]
              simp [letter]
              omega
      · refine aub ?_
        refine rn_ret Tryd.func38 (.inl ⟨_, rfl, rfl⟩) ⟨?_, rfl⟩
        rw [List.take_of_length_le (by omega)] at hall
        have e1 : 1 ≤ s.size := by omega
        have e2 : s.size ≤ 8 := by omega
        simp only [nameOk, hall, e1, e2, decide_true, Bool.and_self]

theorem zeroE_eq (op v n : Int) (l : List ET) : zeroE (.mk op v n l) = (decide (op = 0) && decide (v = 0) && decide (n = 0) && decide (l.length = 0)) := by
  cases l with
  | nil => simp only [zeroE, List.isEmpty, List.length, decide_true, Bool.and_true]; rfl
  | cons x r => simp [zeroE]

theorem isZero_ret {F : Nat → Prop} {w : World} {cs : List Value} {t : ET} (h : ExprV F w cs t) : Ret Tryd.prog 61 [.agg cs.toArray] w fun v w' => v = .bool (zeroE t) ∧ Keep [] w w' := by
  obtain ⟨op, v, n, l⟩ := t
  obtain ⟨lv, rfl, hl⟩ := h.inv
  obtain ⟨a, cap, rfl⟩ := hl.form
  refine ret_of 22 Tryd.func61 rfl rfl (by simp) ?_
  refine au ?_
  refine pl_op rfl rfl (opTo_box [.int .i64 op, .int .i64 v, .int .i64 n, .slice a l.length cap] rfl rfl rfl ?_)
  have hk0 : Keep [] w (w.alloc (.cells [.int .i64 op, .int .i64 v, .int .i64 n, .slice a l.length cap].toArray 38)) := (Keep.refl _ _).alloc _
  have hb0 : Blk (w.alloc (.cells [.int .i64 op, .int .i64 v, .int .i64 n, .slice a l.length cap].toArray 38)) w.heap.size [.int .i64 op, .int .i64 v, .int .i64 n, .slice a l.length cap] 38 := Blk.new _ _ _
  generalize (w.alloc (.cells [.int .i64 op, .int .i64 v, .int .i64 n, .slice a l.length cap].toArray 38)) = w1 at *
  generalize w.heap.size = b at *
  rw [zeroE_eq]
  by_cases h1 : op = 0
  · by_cases h2 : v = 0
    · by_cases h3 : n = 0
      · by_cases h4 : l.length = 0
        · refine aub ?_
          exact rn_ret Tryd.func61 (.inl ⟨_, rfl, rfl⟩) ⟨by simp [h1, h2, h3, h4], hk0⟩
        · refine aub ?_
          exact rn_ret Tryd.func61 (.inl ⟨_, rfl, rfl⟩) ⟨by simp [h1, h2, h3, h4], hk0⟩
      · refine aub ?_
        exact rn_ret Tryd.func61 (.inl ⟨_, rfl, rfl⟩) ⟨by simp [h1, h2, h3], hk0⟩
    · refine aub ?_
      exact rn_ret Tryd.func61 (.inl ⟨_, rfl, rfl⟩) ⟨by simp [h1, h2], hk0⟩
  · refine aub ?_
    exact rn_ret Tryd.func61 (.inl ⟨_, rfl, rfl⟩) ⟨by simp [h1], hk0⟩
end E
end Go.Proofs.YtbojicehfbeepadDoor

/- Mathematics of a check that is handed part by part: what one look tells, and that the looks one behind the other are what chkE, chkS tell. -/
namespace Go.Proofs.YtbojicehfbeepadDoor
set_option maxRecDepth 20000
set_option maxHeartbeats 4000000
namespace E

def knownE (op : Int) : Bool := decide (0 ≤ partsOf op)
def fitsE (op n : Int) (len : Nat) : Bool := decide ((len : Int) = partsOf op) && (op == 1 || n == 0)
def namedE (op : Int) : Bool := op == 2 || op == 3
def knownS (op : Int) : Bool := decide (1 ≤ op) && decide (op ≤ 7)
def fitsS (op : Int) (e f : ET) (lb lo : Nat) : Bool := (((needE op || zeroE e) && (needF op || zeroE f)) && (needB op || (lb : Int) == 0)) && (needO op || (lo : Int) == 0)

/-- What a look tells of one part, with k parts met ahead of it. -/
def lookK (nv k : Nat) (deep : Int) (known fits named : Bool) (v : Int) : Int :=
  if deep > 12 then 4 else if k + 1 > 150 then 3 else if known = false then 2 else if fits = false then 5 else varK nv v named

theorem look_room {nv k : Nat} {deep : Int} {a b c : Bool} {v : Int} (h : lookK nv k deep a b c v = 0) : k + 1 ≤ 150 ∧ deep ≤ 12 := by
  unfold lookK at h
  split at h
  · cases h
  · split at h
    · cases h
    · omega

theorem ownE_look (nv : Nat) (op v n : Int) (len : Nat) : ownE nv op v n len = if knownE op = false then 2 else if fitsE op n len = false then 5 else varK nv v (namedE op) := by
  unfold ownE knownE fitsE namedE
  by_cases h1 : partsOf op < 0
  · have : ¬ 0 ≤ partsOf op := by omega
    simp [h1, this]
  · have h1' : 0 ≤ partsOf op := by omega
    simp only [h1, if_false, h1', decide_true, Bool.true_eq_false]
    by_cases h2 : (len : Int) = partsOf op
    · by_cases h3 : op = 1
      · simp [h2, h3]
      · by_cases h4 : n = 0
        · simp [h2, h3, h4]
        · simp [h2, h3, h4]
    · have h2' : partsOf op ≠ (len : Int) := fun h => h2 h.symm
      simp [h2, h2']
theorem ownS_look (nv : Nat) (op v : Int) (e f : ET) (lb lo : Nat) : ownS nv op v e f lb lo = if knownS op = false then 2 else if fitsS op e f lb lo = false then 5 else varK nv v (needV op) := by
  unfold ownS knownS fitsS
  by_cases h1 : op < 1 ∨ op > 7
  · rw [if_pos h1, if_pos]
    simp
    omega
  · have hk : (decide (1 ≤ op) && decide (op ≤ 7)) = true := by simp; omega
    rw [if_neg h1, hk]
    simp only [Bool.true_eq_false, if_false]
    have e1 : ((lb : Int) == 0) = !decide (0 < lb) := by rw [Bool.eq_iff_iff]; simp
    have e2 : ((lo : Int) == 0) = !decide (0 < lo) := by rw [Bool.eq_iff_iff]; simp
    rw [e1, e2]
    cases needE op <;> cases zeroE e <;> cases needF op <;> cases zeroE f <;> cases needB op <;> cases decide (0 < lb) <;> cases needO op <;> cases decide (0 < lo) <;> rfl

theorem chkE_look (nv deep k : Nat) (op v n : Int) (l : List ET) : chkE nv (.mk op v n l) deep k = if lookK nv k deep (knownE op) (fitsE op n l.length) (namedE op) v ≠ 0 then .error (lookK nv k deep (knownE op) (fitsE op n l.length) (namedE op) v) else chkEs nv l (deep + 1) (k + 1) := by
  simp only [chkE, headK, lookK]
  by_cases h1 : deep > 12
  · have h1' : (deep : Int) > 12 := by omega
    simp [h1, h1', nextK]
  · have h1' : ¬ (deep : Int) > 12 := by omega
    by_cases h2 : k + 1 > 150
    · simp only [h1, h1', h2, if_true, if_false, nextK]
      rfl
    · simp only [h1, h1', h2, if_false, nextK, ownE_look]
theorem chkS_look (nv deep k : Nat) (op v : Int) (e f : ET) (b o : List ST) : chkS nv (.mk op v e f b o) deep k = if lookK nv k deep (knownS op) (fitsS op e f b.length o.length) (needV op) v ≠ 0 then .error (lookK nv k deep (knownS op) (fitsS op e f b.length o.length) (needV op) v) else
    nextK (if needE op then chkE nv e (deep + 1) (k + 1) else .ok (k + 1)) fun k2 => nextK (if needF op then chkE nv f (deep + 1) k2 else .ok k2) fun k3 => nextK (chkSs nv b (deep + 1) k3) fun k4 => chkSs nv o (deep + 1) k4 := by
  simp only [chkS, headK, lookK]
  by_cases h1 : deep > 12
  · have h1' : (deep : Int) > 12 := by omega
    simp [h1, h1', nextK]
  · have h1' : ¬ (deep : Int) > 12 := by omega
    by_cases h2 : k + 1 > 150
    · simp only [h1, h1', h2, if_true, if_false, nextK]
      rfl
    · simp only [h1, h1', h2, if_false, nextK, ownS_look]

/-- The expressions of a statement. -/
def els (op : Int) (e f : ET) : List ET := (if needE op then [e] else []) ++ (if needF op then [f] else [])
theorem nextK_assoc (x : Except Int Nat) (f g : Nat → Except Int Nat) : nextK (nextK x f) g = nextK x fun k => nextK (f k) g := by cases x <;> rfl
theorem nextK_one (k : Nat) (f : Nat → Except Int Nat) : nextK (.ok k) f = f k := rfl
theorem nextK_id (x : Except Int Nat) : nextK x (fun k => .ok k) = x := by cases x <;> rfl
theorem chkEs_els (nv : Nat) (op : Int) (e f : ET) (d k : Nat) : chkEs nv (els op e f) d k = nextK (if needE op then chkE nv e d k else .ok k) fun k2 => if needF op then chkE nv f d k2 else .ok k2 := by
  unfold els
  cases needE op <;> cases needF op <;> simp [chkEs, nextK_one, nextK_id]
theorem chkS_parts (nv deep k : Nat) (op v : Int) (e f : ET) (b o : List ST) (h : lookK nv k deep (knownS op) (fitsS op e f b.length o.length) (needV op) v = 0) : chkS nv (.mk op v e f b o) deep k =
    nextK (chkEs nv (els op e f) (deep + 1) (k + 1)) fun k3 => nextK (chkSs nv b (deep + 1) k3) fun k4 => chkSs nv o (deep + 1) k4 := by
  rw [chkS_look, if_neg (by simp [h]), chkEs_els, nextK_assoc]

theorem chkEs_append (nv : Nat) : ∀ (a b : List ET) (d k : Nat), chkEs nv (a ++ b) d k = nextK (chkEs nv a d k) fun k1 => chkEs nv b d k1
  | [], b, d, k => by simp [chkEs, nextK]
  | t :: r, b, d, k => by
    simp only [List.cons_append, chkEs, nextK_assoc]
    congr 1
    funext k1
    exact chkEs_append nv r b d k1
theorem chkSs_append (nv : Nat) : ∀ (a b : List ST) (d k : Nat), chkSs nv (a ++ b) d k = nextK (chkSs nv a d k) fun k1 => chkSs nv b d k1
  | [], b, d, k => by simp [chkSs, nextK]
  | t :: r, b, d, k => by
    simp only [List.cons_append, chkSs, nextK_assoc]
    congr 1
    funext k1
    exact chkSs_append nv r b d k1
theorem chkEs_at {nv d k ki i : Nat} {l : List ET} {t : ET} (ht : l[i]? = some t) (h : chkEs nv (l.take i) d k = .ok ki) :
    chkEs nv (l.take (i + 1)) d k = chkE nv t d ki ∧ ∀ c, chkE nv t d ki = .error c → chkEs nv l d k = .error c := by
  obtain ⟨hlt, e⟩ := List.getElem?_eq_some_iff.1 ht
  refine ⟨?_, fun c hc => ?_⟩
  · rw [List.take_succ_eq_append_getElem hlt, chkEs_append, h, e]
    simp only [nextK, chkEs]
    exact nextK_id _
  · have : l = l.take i ++ t :: l.drop (i + 1) := by rw [← e, ← List.drop_eq_getElem_cons hlt, List.take_append_drop]
    rw [this, chkEs_append, h]
    simp only [nextK, chkEs, hc]
theorem chkSs_at {nv d k ki i : Nat} {l : List ST} {t : ST} (ht : l[i]? = some t) (h : chkSs nv (l.take i) d k = .ok ki) :
    chkSs nv (l.take (i + 1)) d k = chkS nv t d ki ∧ ∀ c, chkS nv t d ki = .error c → chkSs nv l d k = .error c := by
  obtain ⟨hlt, e⟩ := List.getElem?_eq_some_iff.1 ht
  refine ⟨?_, fun c hc => ?_⟩
  · rw [List.take_succ_eq_append_getElem hlt, chkSs_append, h, e]
    simp only [nextK, chkSs]
    exact nextK_id _
  · have : l = l.take i ++ t :: l.drop (i + 1) := by rw [← e, ← List.drop_eq_getElem_cons hlt, List.take_append_drop]
    rw [this, chkSs_append, h]
    simp only [nextK, chkSs, hc]

/-! ### No more parts than may be -/
def Lid (f : Nat → Except Int Nat) : Prop := ∀ k k', k ≤ 150 → f k = .ok k' → k' ≤ 150
mutual
theorem boundE (nv : Nat) : ∀ t d, Lid (chkE nv t d)
  | .mk op v n l, d => fun k k' hk h => by
    rw [chkE_look] at h
    split at h
    · cases h
    · rename_i hz
      have := (look_room (by simpa using hz)).1
      exact boundEs nv l (d + 1) (k + 1) k' this h
theorem boundEs (nv : Nat) : ∀ l d, Lid (chkEs nv l d)
  | [], d => fun k k' hk h => by
    simp only [chkEs] at h
    injection h with h
    omega
  | t :: r, d => fun k k' hk h => by
    simp only [chkEs] at h
    obtain ⟨k1, h1, h2⟩ := nextK_ok h
    exact boundEs nv r d k1 k' (boundE nv t d k k1 hk h1) h2
end
mutual
theorem boundS (nv : Nat) : ∀ t d, Lid (chkS nv t d)
  | .mk op v e f b o, d => fun k k' hk h => by
    by_cases hz : lookK nv k d (knownS op) (fitsS op e f b.length o.length) (needV op) v = 0
    · rw [chkS_parts _ _ _ _ _ _ _ _ _ hz] at h
      obtain ⟨k1, h1, h2⟩ := nextK_ok h
      obtain ⟨k2, h3, h4⟩ := nextK_ok h2
      have := (look_room hz).1
      exact boundSs nv o (d + 1) k2 k' (boundSs nv b (d + 1) k1 k2 (boundEs nv _ (d + 1) (k + 1) k1 this h1) h3) h4
    · rw [chkS_look, if_pos hz] at h
      cases h
theorem boundSs (nv : Nat) : ∀ l d, Lid (chkSs nv l d)
  | [], d => fun k k' hk h => by
    simp only [chkSs] at h
    injection h with h
    omega
  | t :: r, d => fun k k' hk h => by
    simp only [chkSs] at h
    obtain ⟨k1, h1, h2⟩ := nextK_ok h
    exact boundSs nv r d k1 k' (boundS nv t d k k1 hk h1) h2
end
end E
end Go.Proofs.YtbojicehfbeepadDoor

/- Contracts of exprPart, stmtPart, exprsOf: what an expression, a statement is looked at for. -/
namespace Go.Proofs.YtbojicehfbeepadDoor
set_option maxRecDepth 20000
set_option maxHeartbeats 4000000
namespace E
open Go.Proofs

def partL (deep : Int) (known fits named : Bool) (v : Int) : List Value := [.int .i64 deep, .bool known, .bool fits, .bool named, .int .i64 v]
def partZ : List Value := partL 0 false false false 0
theorem zero_part : ((Tryd.prog.info? 55).bind (·.zero)).map (·.cells) = some partZ.toArray := by kernel_rfl
theorem built_part (d : Int) (a b c : Bool) (v : Int) : Tryd.prog.built 55 [(0, .int .i64 d), (1, .bool a), (2, .bool b), (3, .bool c), (4, .int .i64 v)] = some (partL d a b c v).toArray := by kernel_rfl
theorem part_one (d : Int) (a b c : Bool) (v : Int) : ∀ u ∈ partL d a b c v, u.oneCell' = true := by
  intro u hu
  simp [partL] at hu
  rcases hu with rfl | rfl | rfl | rfl | rfl <;> rfl


theorem exprPart_ret {F : Nat → Prop} {w : World} {op v n : Int} {l : List ET} {lv : Value} (hl : ExprsV F w lv l) (deep : Int) :
    Ret Tryd.prog 62 [.agg #[.int .i64 op, .int .i64 v, .int .i64 n, lv], .int .i64 deep] w fun r w' => r = .agg (partL deep (knownE op) (fitsE op n l.length) (namedE op) v).toArray ∧ Keep [] w w' := by
  obtain ⟨a, cap, rfl⟩ := hl.form
  refine ret_of 38 Tryd.func62 rfl rfl (by simp) ?_
  refine au ?_
  refine pl_op rfl rfl (opTo_boxN [.int .i64 op, .int .i64 v, .int .i64 n, .slice a l.length cap] rfl rfl rfl ?_)
  intro w1 b hb hs1 hk1 hb1
  refine pl_op rfl rfl (opTo_allocN _ rfl zero_part ?_)
  intro w2 c hc hs2 hk2 hc2
  have hb2 := hk2.blk hb1 (by simp)
  refine au ?_
  refine rn_draw (fun w' => Keep [] w2 w' ∧ Blk w' b [.int .i64 op, .int .i64 v, .int .i64 n, .slice a l.length cap] 38) [33] hMix ?_
  have hS : Keep [] w2 w2.drew ∧ Blk w2.drew b [.int .i64 op, .int .i64 v, .int .i64 n, .slice a l.length cap] 38 := ⟨(Keep.refl _ _).drew, hb2.drew⟩
  have hkw : Keep [] w w2.drew := (hk1.tr hk2).drew
  have hc3 := hc2.drew
  have hsz : w.heap.size ≤ c := by have := hk1.size; omega
  generalize w2.drew = w3 at *
  have hlen : (l.length : Int) = partsOf op ∨ (l.length : Int) ≠ partsOf op := by omega
  have hp : op = 1 ∨ op = 2 ∨ (op ≠ 1 ∧ op ≠ 2) := by omega
  clear hk1 hk2 hb1 hc2 hb2
  rcases hp with hp | hp | hp <;> rcases hlen with hlen | hlen
  all_goals
    refine dp 0 ?_
    refine dp 1 ?_
    refine dp 2 ?_
    refine dp 4 ?_
    refine dp 5 ?_
    refine dp 6 ?_
    refine dp 7 ?_
    refine dp 8 ?_
    refine dp 9 ?_
    refine dp 22 ?_
    refine dp 23 ?_
    refine dp 24 ?_
    refine dp 30 ?_
    refine dp 31 ?_
    refine dr_op 3 rfl (by decide +kernel) rfl rfl (opTo_call rfl rfl rfl rfl (by decide +kernel) ((parts_ret op w3).mono ?_))
    rintro v4 w4 ⟨rfl, rfl⟩
    refine ⟨fun _ => hS, ?_⟩
    refine dr_any 4 _ rfl (by decide +kernel) rfl rfl (fun w => val_int _ _ _ _ rfl rfl rfl (by rfl) w) ?_
    refine dr_op 10 rfl (by decide +kernel) rfl rfl (opTo_call rfl rfl rfl rfl (by decide +kernel) ((parts_ret op _).mono ?_))
    rintro v5 w5 ⟨rfl, rfl⟩
    refine ⟨fun _ => hS, ?_⟩
    refine dp 11 ?_
    refine dp 12 ?_
    refine dp 13 ?_
    refine dp 14 ?_
    refine dp 15 ?_
    refine dp 16 ?_
    refine dp 17 ?_
    refine dp 18 ?_
    try (refine dr_any 19 _ rfl (by decide +kernel) rfl rfl (fun w => val_int _ _ _ _ rfl rfl rfl (by rfl) w) ?_)
    refine dp 19 ?_
    refine dp 20 ?_
    refine dp 21 ?_
    refine dp 25 ?_
    refine dp 26 ?_
    refine dp 27 ?_
    try (refine dr_any 28 _ rfl (by decide +kernel) rfl rfl (fun w => val_int _ _ _ _ rfl rfl rfl (by rfl) w) ?_)
    refine dp 28 ?_
    refine dp 29 ?_
    refine dr_any 32 _ rfl (by decide +kernel) rfl rfl (fun w => val_build _ rfl rfl (built_part _ _ _ _ _) w) ?_
    refine dr_op 33 rfl (by decide +kernel) rfl rfl (opTo_storeN _ rfl rfl rfl rfl (by kernel_rfl) hc3 (by simp [partL, partZ]) (part_one _ _ _ _ _) ?_)
    intro w6 hs6 hk6 hc6
    refine ⟨fun h => absurd h (by simp), ?_⟩
    refine dr_done (by decide +kernel) ?_
    rw [splice_whole (by rfl)] at hc6
    refine rn_ret Tryd.func62 (.inr (.inr (.inl ⟨_, _, _, rfl, rfl, blk_loadVar hT hc6 rfl⟩))) ⟨?_, hkw.trB hk6 hsz⟩
    congr 2
    first
      | (subst hp; simp [partL, knownE, fitsE, namedE, hlen]; done)
      | (simp [partL, knownE, fitsE, namedE, hp, hlen]; done)
end E
end Go.Proofs.YtbojicehfbeepadDoor
