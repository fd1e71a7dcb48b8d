/- Several texts in one: BeU, IdK, IdJ, LfK, LfL, DrI, LfB, LfC, LfD. -/
import Derived.Test.YtmplkogkphmmjagGreatJ04
import Derived.Test.YtmplkogkphmmjagGreatJ05
import Derived.Test.YtmplkogkphmmjagGreatJ03
import Derived.Test.YtmplkogkphmmjagGreatEng
/- The document's Being: Now, NewBeing; a program's instructions are in order. -/
namespace Go.Proofs.YtmplkogkphmmjagGreat
set_option maxRecDepth 20000
set_option maxHeartbeats 4000000
namespace E
open Go.Proofs

/-! ### A program's instructions are in order -/
mutual
theorem ops_E {vs : List VarT} : ∀ (t : ET) {d k k' : Nat}, chkE vs.length t d k = .ok k' → ∀ x ∈ insE vs t, 1 ≤ x.1 ∧ x.1 ≤ 15
  | .mk op v m l, d, k, k', h, x, hx => by
    obtain ⟨hd, h1, k1, h2⟩ := chkE_inv h
    obtain ⟨a1, a2, _⟩ := ownE_inv h1
    simp only [insE, List.mem_append, List.mem_singleton] at hx
    rcases hx with hx | rfl
    · exact ops_Es l h2 x hx
    · exact ⟨a1, by show op ≤ 15; omega⟩
theorem ops_Es {vs : List VarT} : ∀ (l : List ET) {d k k' : Nat}, chkEs vs.length l d k = .ok k' → ∀ x ∈ insEs vs l, 1 ≤ x.1 ∧ x.1 ≤ 15
  | [], _, _, _, _, x, hx => by simp [insEs] at hx
  | t :: r, d, k, k', h, x, hx => by
    obtain ⟨⟨k1, h1⟩, k2, h2⟩ := chkEs_inv h
    simp only [insEs, List.mem_append] at hx
    rcases hx with hx | hx
    · exact ops_E t h1 x hx
    · exact ops_Es r h2 x hx
end
mutual
theorem ops_S {vs : List VarT} : ∀ (t : ST) {d k k' : Nat}, chkS vs.length t d k = .ok k' → ∀ (i0 : Nat), ∀ x ∈ insS vs t i0, 1 ≤ x.1 ∧ x.1 ≤ 15
  | .mk op v e f b o, d, k, k', h, i0, x, hx => by
    obtain ⟨hd, h1, h2, h3, ⟨k1, k2, h4⟩, k3, k4, h5⟩ := chkS_inv h
    have ne : ∀ x ∈ eI vs op e, 1 ≤ x.1 ∧ x.1 ≤ 15 := by
      unfold eI
      split
      · rename_i hn
        obtain ⟨_, _, hc⟩ := h2 hn
        exact ops_E e hc
      · simp
    have nf : ∀ x ∈ fI vs op f, 1 ≤ x.1 ∧ x.1 ≤ 15 := by
      unfold fI
      split
      · rename_i hn
        obtain ⟨_, _, hc⟩ := h3 hn
        exact ops_E f hc
      · simp
    have jb := fun i => ops_Ss b h4 i
    have jo := fun i => ops_Ss o h5 i
    simp only [insS] at hx
    split at hx
    · simp only [whileI, List.mem_append, List.mem_cons, List.not_mem_nil, or_false] at hx
      rcases hx with hx | rfl | hx | rfl
      · exact ne x hx
      · exact ⟨by show (1 : Int) ≤ 13; decide, by show (13 : Int) ≤ 15; decide⟩
      · exact jb _ x hx
      · exact ⟨by show (1 : Int) ≤ 14; decide, by show (14 : Int) ≤ 15; decide⟩
    · split at hx
      · simp only [ifI, List.mem_append, List.mem_cons] at hx
        rcases hx with hx | rfl | hx | rfl | hx
        · exact ne x hx
        · exact ⟨by show (1 : Int) ≤ 13; decide, by show (13 : Int) ≤ 15; decide⟩
        · exact jb _ x hx
        · exact ⟨by show (1 : Int) ≤ 14; decide, by show (14 : Int) ≤ 15; decide⟩
        · exact jo _ x hx
      · simp only [List.mem_append, List.mem_singleton] at hx
        rcases hx with hx | hx | rfl
        · exact ne x hx
        · exact nf x hx
        · unfold lastI
          (repeat' split) <;> simp
theorem ops_Ss {vs : List VarT} : ∀ (l : List ST) {d k k' : Nat}, chkSs vs.length l d k = .ok k' → ∀ (i0 : Nat), ∀ x ∈ insSs vs l i0, 1 ≤ x.1 ∧ x.1 ≤ 15
  | [], _, _, _, _, _, x, hx => by simp [insSs] at hx
  | t :: r, d, k, k', h, i0, x, hx => by
    obtain ⟨⟨k1, h1⟩, k2, h2⟩ := chkSs_inv h
    simp only [insSs, List.mem_append] at hx
    rcases hx with hx | hx
    · exact ops_S t h1 i0 x hx
    · exact ops_Ss r h2 _ x hx
end
theorem prog_prg {vs : List VarT} {body : List ST} (h : progFault vs body = 0) (hsz : szSs body ≤ 1000) : ∃ c : Nat, (c : Int) = sumV vs ∧ c ≤ 48 ∧ Prg c (insSs vs body 0) := by
  obtain ⟨_, hbig, _, h0, h48⟩ := prog_fit h
  obtain ⟨_, _, k, hc⟩ := progFault_ok h
  have e : ((sumV vs).toNat : Int) = sumV vs := by omega
  have hl := insSs_len vs body 0
  exact ⟨(sumV vs).toNat, e, by omega, by rw [e]; exact sim_Ss hbig body hc 0, by rw [e]; exact jmp_Ss hbig body hc 0, ops_Ss body hc 0, by omega, by omega⟩

/-! ### Now -/
def codeB (m : Md) (p : Pr) : Int := if p.2 then 15 else if m.state = 0 then 13 else if m.state > 1 then (m.state : Int) - 2 else 0
def resC (c : Int) (o l : Value) : List Value := [.int .i64 c, o, l]
theorem zero_re : ((Tryz.prog.info? 45).bind (·.zero)).map (·.cells) = some (resC 0 (.slice none 0 0) (.slice none 0 0)).toArray := by kernel_rfl
theorem size_re : sizeOk Tryz.prog 45 3 = true := by kernel_rfl
theorem built_re (a b : Option Addr) (n c m d : Nat) : Tryz.prog.built 45 [(1, .slice a n c), (2, .slice b m d)] = some (resC 0 (.slice a n c) (.slice b m d)).toArray := by kernel_rfl
theorem resC_one (c : Int) (a b : Option Addr) (n k m d : Nat) : ∀ u ∈ resC c (.slice a n k) (.slice b m d), u.oneCell' = true := by
  intro u hu
  simp only [resC, List.mem_cons, List.not_mem_nil, or_false] at hu
  rcases hu with rfl | rfl | rfl <;> rfl
end E
end Go.Proofs.YtmplkogkphmmjagGreat

/- What the laws of package ideal take of it; their first look. -/
namespace Go.Proofs.YtmplkogkphmmjagGreat
set_option maxRecDepth 20000
set_option maxHeartbeats 4000000
namespace E
open Go.Proofs

/-- What Run tells: the Result's code, what was printed, the cells; how many instructions; a code. -/
structure Told where
  code : Int
  out : List Int
  cells : List Int
  used : Int
  fault : Int
def toldX (r : Nat × List Int × List Int × Nat) : Told := ⟨r.1, r.2.1, r.2.2.1, r.2.2.2, 0⟩
def saysX (vs : List VarT) (body : List ST) (inp : List Int) (fuel : Nat) : Ex Es := evP vs inp fuel body (es0 (sumV vs).toNat)
def runI (vs : List VarT) (body : List ST) (inp : List Int) (fuel : Int) : Told :=
  if progFault vs body = 0 then (if inp.length ≤ 40 ∧ 0 ≤ fuel ∧ fuel ≤ 3000 then toldX (resX (saysX vs body inp fuel.toNat)) else ⟨0, [], [], 0, 1⟩) else ⟨0, [], [], 0, progFault vs body⟩
/-- A list of numbers that lies there, and has as much room as it has numbers. -/
def LsC (w : World) (v : Value) (l : List Int) : Prop := LsV w v l ∧ ∀ a n cap, v = .slice a n cap → n ≤ cap
theorem LsC.keep0 {w w' : World} {v : Value} {l : List Int} (h : LsC w v l) (hk : Keep [] w w') : LsC w' v l := ⟨h.1.keep0 hk, h.2⟩
/-- It lies in memory that was not there in w. -/
def Nw (w : World) (v : Value) : Prop := ∀ b q n c, v = .slice (some ⟨b, q, none⟩) n c → 0 < n → w.heap.size ≤ b

/-- How far a run comes. -/
theorem says_at {vs : List VarT} {body : List ST} (h : progFault vs body = 0) (hsz : szSs body ≤ 1000) (inp : List Int) (fuel : Nat) :
    ∃ n m out, n ≤ fuel ∧ pu (insP vs body) inp (sumV vs).toNat n = (m, (out, false)) ∧ (∀ k < n, (pu (insP vs body) inp (sumV vs).toNat k).1.state = 0) ∧ (n = fuel ∨ m.state ≠ 0) ∧ m.state ≤ 14 ∧ m.cells.length ≤ 48 ∧ out.length ≤ n ∧
      resX (saysX vs body inp fuel) = (if m.state = 0 then 13 else if m.state = 1 then 0 else m.state - 2, out, m.cells, n) := by
  obtain ⟨n, m, out, h1, ⟨h2, h3⟩, h4, h5⟩ := runP h inp fuel (sumV vs).toNat
  have h2 : pu (insP vs body) inp (sumV vs).toNat n = (m, (out, false)) := h2
  obtain ⟨c, hc, h48, hP⟩ := prog_prg h hsz
  have hcc : c = (sumV vs).toNat := by omega
  have hf := pu_fit (inp := inp) hP.sim hP.jmp n
  rw [hcc, show insSs vs body 0 ++ [haltI] = insP vs body from rfl, h2] at hf
  obtain ⟨b1, b2, b3⟩ := pu_bounds (W := insP vs body) (inp := inp) (c := (sumV vs).toNat) n
  rw [h2] at b2 b3
  have hcl := hf.cells
  exact ⟨n, m, out, h1, h2, h3, h4, b3, by have : (m.cells.length : Int) = ((sumV vs).toNat : Int) := hcl; omega, b2, h5⟩
theorem runI_bnd {vs : List VarT} {body : List ST} (hsz : szSs body ≤ 1000) (inp : List Int) (fuel : Int) : (runI vs body inp fuel).out.length ≤ 3000 ∧ (runI vs body inp fuel).cells.length ≤ 48 := by
  unfold runI
  split
  · rename_i h
    split
    · obtain ⟨n, m, out, h1, _, _, _, _, h5, h6, h7⟩ := says_at h hsz inp fuel.toNat
      rw [h7]
      exact ⟨by show out.length ≤ 3000; omega, h5⟩
    · exact ⟨by simp, by simp⟩
  · exact ⟨by simp, by simp⟩
theorem runI_in {vs : List VarT} {body : List ST} {inp : List Int} {fuel : Int} (h : progFault vs body = 0) (hi : inp.length ≤ 40) (h0 : 0 ≤ fuel) (h3 : fuel ≤ 3000) : runI vs body inp fuel = toldX (resX (saysX vs body inp fuel.toNat)) := by
  unfold runI
  rw [if_pos h, if_pos ⟨hi, h0, h3⟩]
theorem runI_not {vs : List VarT} {body : List ST} {inp : List Int} {fuel : Int} (h : ¬ progFault vs body = 0) : runI vs body inp fuel = ⟨0, [], [], 0, progFault vs body⟩ := by
  unfold runI
  rw [if_neg h]
theorem runI_off {vs : List VarT} {body : List ST} {inp : List Int} {fuel : Int} (h : progFault vs body = 0) (hi : ¬ (inp.length ≤ 40 ∧ 0 ≤ fuel ∧ fuel ≤ 3000)) : runI vs body inp fuel = ⟨0, [], [], 0, 1⟩ := by
  unfold runI
  rw [if_pos h, if_neg hi]
theorem toldX_fault (r : Nat × List Int × List Int × Nat) : (toldX r).fault = 0 := rfl

/-! ### The first look -/
def jz : List Value := [.int .i64 0, .int .i64 0, .int .i64 0, .slice none 0 0]
def je : List Value := [.int .i64 1, .int .i64 0, .int .i64 5, .slice none 0 0]
def js : List Value := scells 3 0 je jz (.slice none 0 0) (.slice none 0 0)
def jE : ET := .mk 1 0 5 []
def jS : List ST := [.mk 3 0 jE zeroT [] []]
theorem built_je : Tryz.prog.built 94 [(0, .int .i64 1), (2, .int .i64 5)] = some je.toArray := by kernel_rfl
theorem built_js : Tryz.prog.built 99 [(0, .int .i64 3), (2, .agg je.toArray)] = some js.toArray := by kernel_rfl
theorem slice_js : sliceCells Tryz.prog 23 1 [(0, .agg js.toArray)] = some (99, js.toArray) := by kernel_rfl
theorem built_jp (b : Nat) : Tryz.prog.built 25 [(1, .slice (some ⟨b, 0, none⟩) 1 1)] = some [Value.slice none 0 0, .slice (some ⟨b, 0, none⟩) 1 1].toArray := by kernel_rfl
theorem built_j0 : Tryz.prog.built 25 [] = some [Value.slice none 0 0, .slice none 0 0].toArray := by kernel_rfl
theorem j_run : runI [] jS [] 9 = ⟨0, [5], [], 3, 0⟩ := by kernel_rfl
theorem j_none : runI [] [] [] 0 = ⟨13, [], [], 0, 0⟩ := by kernel_rfl
theorem ls_nil (w : World) : LsC w (.slice none 0 0) [] := ⟨⟨none, 0, rfl, fun h => absurd h (by simp)⟩, fun a n cap h => by injection h with h1 h2 h3; omega⟩

end E
end Go.Proofs.YtmplkogkphmmjagGreat

/- The document's Begins and Ideal. -/
namespace Go.Proofs.YtmplkogkphmmjagGreat
set_option maxRecDepth 20000
set_option maxHeartbeats 4000000
namespace E
open Go.Proofs

theorem codeB_nat (m : Md) (p : Pr) (h : p.2 = false) : codeB m p = (((if m.state = 0 then 13 else if m.state = 1 then 0 else m.state - 2 : Nat)) : Int) := by
  unfold codeB
  rw [h]
  simp only [Bool.false_eq_true, if_false]
  split
  · rfl
  · split
    · rw [if_neg (by omega)]; omega
    · rw [if_pos (by omega)]; rfl
end E
end Go.Proofs.YtmplkogkphmmjagGreat

/- What the laws of package life take of it; small functions of theirs. -/
namespace Go.Proofs.YtmplkogkphmmjagGreat
set_option maxRecDepth 20000
set_option maxHeartbeats 4000000
namespace E
open Go.Proofs

def spC (s : Sp) : List Value := [.int .i64 s.1, .int .i64 s.2.1, .int .i64 s.2.2.1, .int .u64 (s.2.2.2 : Nat)]
theorem spC_length (s : Sp) : (spC s).length = 4 := rfl
theorem spC_one (s : Sp) : ∀ u ∈ spC s, u.oneCell' = true := by
  intro u hu
  simp only [spC, List.mem_cons, List.not_mem_nil, or_false] at hu
  rcases hu with rfl | rfl | rfl | rfl <;> rfl
/-- Steps that lie there. -/
def SpV (w : World) (v : Value) (l : List Sp) : Prop := ∃ a cap, v = .slice a l.length cap ∧ (0 < l.length → ∃ b q, a = some ⟨b, q, none⟩ ∧ b < w.heap.size ∧ w.rangeAt b q (l.flatMap spC))
section
variable {w w' : World} {v : Value} {l : List Sp}
theorem SpV.form (h : SpV w v l) : ∃ a cap, v = .slice a l.length cap := let ⟨a, cap, h, _⟩ := h; ⟨a, cap, h⟩
theorem SpV.keep0 (h : SpV w v l) (hk : Keep [] w w') : SpV w' v l := by
  obtain ⟨a, cap, h1, h2⟩ := h
  refine ⟨a, cap, h1, fun h0 => ?_⟩
  obtain ⟨b, q, h3, h4, h5⟩ := h2 h0
  exact ⟨b, q, h3, Nat.lt_of_lt_of_le h4 hk.size, range_keep h5 hk h4 (by simp)⟩
theorem SpV.at (h : SpV w v l) {i : Nat} {s : Sp} (hs : l[i]? = some s) : ∃ b q cap, v = .slice (some ⟨b, q, none⟩) l.length cap ∧ w.rangeAt b (q + i * 4) (spC s) := by
  have hi := (List.getElem?_eq_some_iff.1 hs).1
  obtain ⟨a, cap, h1, h2⟩ := h
  obtain ⟨b, q, rfl, h4, h5⟩ := h2 (by omega)
  refine ⟨b, q, cap, h1, fun j u hu => ?_⟩
  have hf := flat_at (f := spC) (k := 4) (fun p _ => spC_length p) hs
  have hj : j < 4 := by
    have := (List.getElem?_eq_some_iff.1 hu).1
    rwa [spC_length] at this
  rw [← hf, List.getElem?_take, if_pos hj, List.getElem?_drop] at hu
  have := h5 (i * 4 + j) u hu
  rwa [← Nat.add_assoc] at this
end

/-- New's code. -/
def newF (vs : List VarT) (body : List ST) (inp : List Int) : Int := if progFault vs body = 0 then (if inp.length ≤ 40 then 0 else 1) else progFault vs body
def lz0 (c : Nat) : Lz := ⟨lf0 c, List.replicate 112 0, List.replicate 112 0, 0⟩
/-- A life that is somewhere in the life without crashes, by so many instructions at most. -/
def InvZ (vs : List VarT) (body : List ST) (inp : List Int) (z : Lz) (i : Nat) : Prop := (0 ≤ z.gen ∧ z.gen ≤ (i : Int)) ∧ ∃ g, g ≤ i ∧ InvL (insP vs body) inp (sumV vs).toNat z.lf g
/-- A step; nothing, if it has a fault. -/
def doZS (nw : List Is → List Int → Md → List Int → List Int) (L : List Is) (inp : List Int) (s : Sp) (z : Lz) : Lz × Nat := if spFault s = 0 then doZ nw L inp s.1 s.2.1.toNat (spKeep s) z else (z, 0)
/-- What Run tells. -/
def runF (vs : List VarT) (body : List ST) (inp : List Int) (l : List Sp) (fuel : Int) : Told :=
  if l.length ≤ 100 then (if newF vs body inp = 0 then (if badL l = 0 then (if 0 ≤ fuel ∧ fuel ≤ 3000 then
    (let x := (runL (insP vs body) inp fuel.toNat (livesL (insP vs body) inp l (lf0 (sumV vs).toNat))).1
     ⟨codeB x.m x.p, x.p.1, x.m.cells, 0, 0⟩) else ⟨0, [], [], 0, 1⟩) else ⟨0, [], [], 0, badL l⟩) else ⟨0, [], [], 0, newF vs body inp⟩) else ⟨0, [], [], 0, 3⟩
/-- What is to be shown of package life. LV: a life that lies at y, with the blocks that are its own (from B on). -/
structure LfI (nw : List Is → List Int → Md → List Int → List Int) (LV : List VarT → List ST → List Int → Nat → World → Nat → List Nat → Lz → Prop) : Prop where
  lt : ∀ {vs : List VarT} {body : List ST} {inp : List Int} {B : Nat} {w : World} {y : Nat} {fp : List Nat} {z : Lz}, LV vs body inp B w y fp z → ∀ k ∈ fp, B ≤ k ∧ k < w.heap.size
  keep : ∀ {vs : List VarT} {body : List ST} {inp : List Int} {B : Nat} {w w' : World} {y : Nat} {fp fp2 : List Nat} {z : Lz}, LV vs body inp B w y fp z → Keep fp2 w w' → (∀ k ∈ fp2, k ∉ fp) → LV vs body inp B w' y fp z
  new : ∀ {F : Nat → Prop} {w : World} {x iv : Value} {vs : List VarT} {body : List ST} {inp : List Int}, ProgV F w x vs body → In F w → LsC w iv inp → vs.length ≤ 100000 → szSs body ≤ 1000 → inp.length ≤ 100000 →
    Ret Tryz.prog 8 [x, iv] w fun r w' => (∃ pv, r = .tuple #[pv, .int .i64 (newF vs body inp)] ∧ (newF vs body inp = 0 → ∃ y fp, pv = .pointer (some ⟨y, 0, none⟩) ∧ LV vs body inp w.heap.size w' y fp (lz0 (sumV vs).toNat))) ∧ Keep [] w w'
  does : ∀ {vs : List VarT} {body : List ST} {inp : List Int} {B i : Nat} {w : World} {y : Nat} {fp : List Nat} {z : Lz} (s : Sp), LV vs body inp B w y fp z → InvZ vs body inp z i → i ≤ 300000 → progFault vs body = 0 → szSs body ≤ 1000 → inp.length ≤ 40 → s.2.1 < 9223372036854775808 → s.2.2.1 < 9223372036854775808 → s.2.2.2 < 18446744073709551616 →
    Ret Tryz.prog 9 [.pointer (some ⟨y, 0, none⟩), .agg (spC s).toArray] w fun r w' => r = .tuple #[.int .i64 ((doZS nw (insP vs body) inp s z).2 : Nat), .int .i64 (spFault s)] ∧ ∃ fp', LV vs body inp B w' y fp' (doZS nw (insP vs body) inp s z).1 ∧ Keep fp w w' ∧ ∀ k ∈ fp', k ∈ fp ∨ w.heap.size ≤ k
  now : ∀ {vs : List VarT} {body : List ST} {inp : List Int} {B i : Nat} {w : World} {y : Nat} {fp : List Nat} {z : Lz}, LV vs body inp B w y fp z → InvZ vs body inp z i → i ≤ 300000 → progFault vs body = 0 → szSs body ≤ 1000 →
    Ret Tryz.prog 11 [.pointer (some ⟨y, 0, none⟩)] w fun r w' => (∃ ov cv, r = .agg (resC (codeB z.lf.m z.lf.p) ov cv).toArray ∧ LsC w' ov z.lf.p.1 ∧ LsV w' cv z.lf.m.cells ∧ Nw w ov ∧ Nw w cv) ∧ Keep [] w w'
  mach : ∀ {vs : List VarT} {body : List ST} {inp : List Int} {B : Nat} {w : World} {y : Nat} {fp : List Nat} {z : Lz}, LV vs body inp B w y fp z → ∃ x m s, w.cell? ⟨y, 0, none⟩ = some (.pointer (some ⟨x, 0, none⟩)) ∧ w.cell? ⟨x, 0, none⟩ = some (.pointer (some ⟨m, 0, none⟩)) ∧ w.cell? ⟨m, 0, none⟩ = some (.pointer (some ⟨s, 0, none⟩))
  commits : ∀ {vs : List VarT} {body : List ST} {inp : List Int} {B i : Nat} {w : World} {y x : Nat} {fp : List Nat} {z : Lz}, LV vs body inp B w y fp z → InvZ vs body inp z i → i ≤ 300000 → progFault vs body = 0 → szSs body ≤ 1000 → w.cell? ⟨y, 0, none⟩ = some (.pointer (some ⟨x, 0, none⟩)) →
    Ret Tryz.prog 10 [.pointer (some ⟨x, 0, none⟩)] w fun r w' => r = .bool (comB (insP vs body) z.lf.m) ∧ Keep [] w w'
  all : ∀ {vs : List VarT} {body : List ST} {inp : List Int} {B : Nat} {w : World} {y x m : Nat} {fp : List Nat} {z : Lz}, LV vs body inp B w y fp z → w.cell? ⟨y, 0, none⟩ = some (.pointer (some ⟨x, 0, none⟩)) → w.cell? ⟨x, 0, none⟩ = some (.pointer (some ⟨m, 0, none⟩)) →
    Ret Tryz.prog 14 [.pointer (some ⟨m, 0, none⟩)] w fun r w' => LsV w' r z.W ∧ z.W.length = 112 ∧ Nw w r ∧ Keep [] w w'
  gen : ∀ {vs : List VarT} {body : List ST} {inp : List Int} {B : Nat} {w : World} {y x m s : Nat} {fp : List Nat} {z : Lz}, LV vs body inp B w y fp z → w.cell? ⟨y, 0, none⟩ = some (.pointer (some ⟨x, 0, none⟩)) → w.cell? ⟨x, 0, none⟩ = some (.pointer (some ⟨m, 0, none⟩)) → w.cell? ⟨m, 0, none⟩ = some (.pointer (some ⟨s, 0, none⟩)) →
    Ret Tryz.prog 13 [.pointer (some ⟨s, 0, none⟩)] w fun r w' => r = .int .i64 z.gen ∧ Keep [] w w'
  run : ∀ {F : Nat → Prop} {w : World} {x iv lv : Value} {vs : List VarT} {body : List ST} {inp : List Int} {l : List Sp} (fuel : Int), ProgV F w x vs body → In F w → LsC w iv inp → SpV w lv l → vs.length ≤ 100000 → szSs body ≤ 1000 → inp.length ≤ 100000 → l.length ≤ 100000 → (∀ s ∈ l, s.2.1 < 9223372036854775808 ∧ s.2.2.1 < 9223372036854775808 ∧ s.2.2.2 < 18446744073709551616) → nSum l ≤ 6000 →
    Ret Tryz.prog 16 [x, iv, lv, .int .i64 fuel] w fun r w' => (∃ ov cv, r = .tuple #[.agg (resC (runF vs body inp l fuel).code ov cv).toArray, .int .i64 (runF vs body inp l fuel).fault] ∧ LsV w' ov (runF vs body inp l fuel).out ∧ LsV w' cv (runF vs body inp l fuel).cells ∧ Nw w ov ∧ Nw w cv) ∧ Keep [] w w'
section
variable {nw : List Is → List Int → Md → List Int → List Int} {LV : List VarT → List ST → List Int → Nat → World → Nat → List Nat → Lz → Prop} {vs : List VarT} {body : List ST} {inp : List Int} {B : Nat} {w w' w0 : World} {y : Nat} {fp : List Nat} {z : Lz}
theorem LfI.keep0 (I : LfI nw LV) (h : LV vs body inp B w y fp z) (hk : Keep [] w w') : LV vs body inp B w' y fp z := I.keep h hk fun k hk => by cases hk
/-- What it does leaves all below B alone. -/
theorem LfI.low (I : LfI nw LV) (h : LV vs body inp B w y fp z) (hk : Keep [] w0 w) (hB : w0.heap.size ≤ B) (hk' : Keep fp w w') : Keep [] w0 w' := hk.trans hk' fun k hm => .inr (Nat.le_trans hB (I.lt h k hm).1)
end
end E
end Go.Proofs.YtmplkogkphmmjagGreat

/- Small functions of the laws of package life: StepFault, greatLife. -/
namespace Go.Proofs.YtmplkogkphmmjagGreat
set_option maxRecDepth 20000
set_option maxHeartbeats 4000000
namespace E
open Go.Proofs

theorem greatLife_ret {F : Nat → Prop} {w : World} {x iv lv : Value} {vs : List VarT} {body : List ST} {inp : List Int} {l : List Sp} (h : ProgV F w x vs body) (hF : In F w) (hi : ∃ a cap, iv = .slice a inp.length cap) (hl : SpV w lv l) :
    Ret Tryz.prog 7 [x, iv, lv] w fun r w' => (∃ g : Bool, r = .bool g ∧ (g = false → vs.length ≤ 30 ∧ (∀ y ∈ vs, y.1.size ≤ 100) ∧ szSs body ≤ 900 ∧ inp.length ≤ 100 ∧ l.length ≤ 60 ∧ nSum l ≤ 6000)) ∧ Keep [] w w' := by
  have hp := h
  obtain ⟨vv, bv, rfl, hv, hb⟩ := h
  obtain ⟨av, capv, rfl⟩ := hv.form
  obtain ⟨ab, capb, rfl⟩ := hb.form
  obtain ⟨ia, icap, rfl⟩ := hi
  obtain ⟨la, lcap, rfl⟩ := hl.form
  refine ret_of 56 Tryz.func7 rfl rfl (by simp) ?_
  refine au ?_
  refine pl_op rfl rfl (opTo_boxN [.slice av vs.length capv, .slice ab body.length capb] rfl rfl rfl ?_)
  intro w1 pb hpb hs1 hk1 hb1
  have hl1 := hl.keep0 hk1
  refine au ?_
  refine rn_ind (fun q σ w' => ∃ i : Nat, i ≤ l.length ∧ i ≤ 200 ∧ q = l.length - i ∧ σ = [(1, .slice ia inp.length icap), (2, .slice la l.length lcap), (3, .pointer (some ⟨pb, 0, none⟩)), (7, .int .i64 (nSum (l.take i) : Nat)), (8, .int .i64 (i : Nat))] ∧ w' = w1) l.length _ ?_ ⟨0, by omega, by omega, by omega, rfl, rfl⟩ ?_
  · exact ⟨rfl, rfl, rfl, rfl, rfl, trivial⟩
  rintro q σ w2 ih ⟨i, hi, hi2, rfl, rfl, rfl⟩
  have hns := nSum_le (l.take i)
  have hlt := List.length_take_le i l
  refine au ?_
  by_cases hil : i < l.length
  · refine ye ?_
    refine au ?_
    by_cases hi200 : i < 200
    · have hxi : l[i]? = some l[i] := List.getElem?_eq_getElem hil
      obtain ⟨b, q, cap, hv', hra⟩ := hl1.at hxi
      cases hv'
      have hsn := nSum_take hxi
      refine ye ?_
      refine au ?_
      refine pl_val _ rfl rfl (val_index i hT rfl rfl rfl rfl rfl hil w2) ?_
      refine au ?_
      refine pl_val _ rfl rfl (val_load1 hT rfl rfl rfl (hra 1 (.int .i64 l[i].2.1) rfl)) ?_
      by_cases hn0 : 0 < l[i].2.1
      · refine ye ?_
        refine au ?_
        refine pl_val _ rfl rfl (val_index i hT rfl rfl rfl rfl rfl hil w2) ?_
        refine au ?_
        refine pl_val _ rfl rfl (val_load1 hT rfl rfl rfl (hra 1 (.int .i64 l[i].2.1) rfl)) ?_
        by_cases hn3 : l[i].2.1 ≤ 3000
        · rw [if_pos ⟨hn0, hn3⟩] at hsn
          refine ye ?_
          refine au ?_
          refine pl_val _ rfl rfl (val_index i hT rfl rfl rfl rfl rfl hil w2) ?_
          refine au ?_
          refine pl_val _ rfl rfl (val_load1 hT rfl rfl rfl (hra 1 (.int .i64 l[i].2.1) rfl)) ?_
          refine pl_num (((nSum (l.take (i + 1)) : Nat) : Int)) rfl rfl rfl rfl rfl (by simp only [ariP]; omega) ?_
          refine au ?_
          refine pl_num (((i + 1 : Nat) : Int)) rfl rfl rfl rfl rfl (by simp only [ariP]; omega) ?_
          refine au ?_
          refine rn_sub ?_ (ih (l.length - (i + 1)) _ w2 (by omega) ⟨i + 1, by omega, by omega, rfl, rfl, rfl⟩)
          exact ⟨rfl, rfl, rfl, rfl, rfl, trivial⟩
        · rw [if_neg (fun hh => hn3 hh.2)] at hsn
          refine nay ?_
          refine au ?_
          refine pl_num (((i + 1 : Nat) : Int)) rfl rfl rfl rfl rfl (by simp only [ariP]; omega) ?_
          refine au ?_
          refine rn_sub ?_ (ih (l.length - (i + 1)) _ w2 (by omega) ⟨i + 1, by omega, by omega, rfl, by rw [hsn, Nat.add_zero], rfl⟩)
          exact ⟨rfl, rfl, rfl, rfl, rfl, trivial⟩
      · rw [if_neg (fun hh => hn0 hh.1)] at hsn
        refine nay ?_
        refine au ?_
        refine pl_num (((i + 1 : Nat) : Int)) rfl rfl rfl rfl rfl (by simp only [ariP]; omega) ?_
        refine au ?_
        refine rn_sub ?_ (ih (l.length - (i + 1)) _ w2 (by omega) ⟨i + 1, by omega, by omega, rfl, by rw [hsn, Nat.add_zero], rfl⟩)
        exact ⟨rfl, rfl, rfl, rfl, rfl, trivial⟩
    · refine nay ?_
      refine au ?_
      refine pl_val _ rfl rfl (val_load [.slice av vs.length capv, .slice ab body.length capb] hT rfl rfl rfl (hb1.range (by rfl))) ?_
      refine pl_op rfl rfl (opTo_call (fst := []) (cap := []) rfl rfl rfl rfl (by decide +kernel) ((great_ret (hp.keep hk1 hF.stays) (hF.keep hk1)).mono ?_))
      rintro r w3 ⟨⟨g, rfl, hg⟩, hk3⟩
      cases g with
      | true =>
        refine au ?_
        exact rn_ret Tryz.func7 (.inl ⟨_, rfl, rfl⟩) ⟨⟨true, rfl, fun h => by cases h⟩, hk1.tr hk3⟩
      | false =>
        refine au ?_
        by_cases h100 : 100 < inp.length
        · refine ye ?_
          refine au ?_
          exact rn_ret Tryz.func7 (.inl ⟨_, rfl, rfl⟩) ⟨⟨true, rfl, fun h => by cases h⟩, hk1.tr hk3⟩
        refine nay ?_
        refine au ?_
        refine ye ?_
        refine au ?_
        exact rn_ret Tryz.func7 (.inl ⟨_, rfl, rfl⟩) ⟨⟨true, rfl, fun h => by cases h⟩, hk1.tr hk3⟩
  · have hie : i = l.length := by omega
    rw [hie, List.take_length] at hns ⊢
    refine nay ?_
    refine au ?_
    refine pl_val _ rfl rfl (val_load [.slice av vs.length capv, .slice ab body.length capb] hT rfl rfl rfl (hb1.range (by rfl))) ?_
    refine pl_op rfl rfl (opTo_call (fst := []) (cap := []) rfl rfl rfl rfl (by decide +kernel) ((great_ret (hp.keep hk1 hF.stays) (hF.keep hk1)).mono ?_))
    rintro r w3 ⟨⟨g, rfl, hg⟩, hk3⟩
    cases g with
    | true =>
      refine au ?_
      exact rn_ret Tryz.func7 (.inl ⟨_, rfl, rfl⟩) ⟨⟨true, rfl, fun h => by cases h⟩, hk1.tr hk3⟩
    | false =>
      obtain ⟨g1, g2, g3⟩ := hg rfl
      refine au ?_
      by_cases h100 : 100 < inp.length
      · refine ye ?_
        refine au ?_
        exact rn_ret Tryz.func7 (.inl ⟨_, rfl, rfl⟩) ⟨⟨true, rfl, fun h => by cases h⟩, hk1.tr hk3⟩
      refine nay ?_
      refine au ?_
      by_cases h60 : 60 < l.length
      · refine ye ?_
        refine au ?_
        exact rn_ret Tryz.func7 (.inl ⟨_, rfl, rfl⟩) ⟨⟨true, rfl, fun h => by cases h⟩, hk1.tr hk3⟩
      refine nay ?_
      refine au ?_
      by_cases h6 : 6000 < nSum l
      · refine ye ?_
        refine au ?_
        exact rn_ret Tryz.func7 (.inl ⟨_, rfl, rfl⟩) ⟨⟨true, rfl, fun h => by cases h⟩, hk1.tr hk3⟩
      refine nay ?_
      refine au ?_
      exact rn_ret Tryz.func7 (.inl ⟨_, rfl, rfl⟩) ⟨⟨false, rfl, fun _ => ⟨g1, g2, g3, by omega, by omega, by omega⟩⟩, hk1.tr hk3⟩
end E
end Go.Proofs.YtmplkogkphmmjagGreat

/- A region that draws its order, by what is true whatever has come up. -/
namespace Go.Proofs.YtmplkogkphmmjagGreat
set_option maxRecDepth 20000
set_option maxHeartbeats 4000000
namespace E

/-- How many have not come up. -/
def cntN : Nat → Nat → Nat
  | 0, _ => 0
  | n + 1, m => cntN n m + (if m.testBit n then 0 else 1)
theorem cntN_same (m i : Nat) : ∀ (n : Nat), n ≤ i → cntN n (m ||| 2 ^ i) = cntN n m
  | 0, _ => rfl
  | n + 1, h => by
    simp only [cntN]
    rw [cntN_same m i n (by omega), Nat.testBit_or, Nat.testBit_two_pow, show decide (i = n) = false by simp; omega, Bool.or_false]
theorem cntN_set (m i : Nat) (hb : m.testBit i = false) : ∀ (n : Nat), i < n → cntN n (m ||| 2 ^ i) + 1 = cntN n m
  | 0, h => by omega
  | n + 1, h => by
    simp only [cntN]
    by_cases e : i = n
    · subst e
      rw [cntN_same m i i (Nat.le_refl _), hb, Nat.testBit_or, Nat.testBit_two_pow]
      simp
    · have := cntN_set m i hb n (by omega)
      rw [Nat.testBit_or, Nat.testBit_two_pow, show decide (i = n) = false by simp [e], Bool.or_false]
      omega
theorem cntN_zero (m : Nat) : ∀ (n : Nat), cntN n m = 0 → ∀ i, i < n → m.testBit i = true
  | 0, _, i, h => by omega
  | n + 1, h, i, hi => by
    simp only [cntN] at h
    by_cases e : i = n
    · subst e
      cases hb : m.testBit i with
      | true => rfl
      | false => rw [hb] at h; simp at h
    · exact cntN_zero m n (by omega) i (by omega)

section
variable {P : Program} {f n : Nat} {k : List Item} {R : Post} {ops : Array Oper} {S : World → Prop} {T : List Nat}
theorem ready_bit {m i : Nat} (h : i ∈ Region.ready .any ops (bits ops.size m)) : i < ops.size ∧ m.testBit i = false ∧ ∃ o, ops[i]? = some o ∧ ∀ e ∈ o.after, Region.binds .any e = true → m.testBit e.on = true := by
  obtain ⟨h1, o, ho, h2⟩ := mem_ready.1 h
  have hi : i < ops.size := by
    rcases Nat.lt_or_ge i ops.size with h | h
    · exact h
    · rw [Array.getElem?_eq_none h] at ho; cases ho
  refine ⟨hi, ?_, o, ho, fun e he hb => ?_⟩
  · simp [bits, hi] at h1
    exact h1
  · have := h2 e he hb
    by_cases hlt : e.on < ops.size
    · simp [bits, hlt] at this
      exact this
    · simp [bits, hlt] at this
/-- None waits for one behind it. -/
def wellOrd (ops : Array Oper) : Bool := (List.range ops.size).all fun j => match ops[j]? with
  | some o => o.after.all fun e => !Region.binds .any e || decide (e.on < j)
  | none => true
theorem ready_all (hw : wellOrd ops = true) {m : Nat} (hr : Region.ready .any ops (bits ops.size m) = []) : ∀ j, j < ops.size → m.testBit j = true := by
  intro j
  induction j using Nat.strongRecOn with
  | ind j ih =>
    intro hj
    cases hb : m.testBit j with
    | true => rfl
    | false =>
      exfalso
      have ho : ops[j]? = some ops[j] := Array.getElem?_eq_getElem hj
      have hin : j ∈ Region.ready .any ops (bits ops.size m) := by
        refine mem_ready.2 ⟨by simp [bits, hj, hb], ops[j], ho, fun e he hbd => ?_⟩
        have h1 := List.all_eq_true.1 hw j (List.mem_range.2 hj)
        rw [ho] at h1
        simp only at h1
        rw [Array.all_eq_true'] at h1
        have h2 := h1 e he
        rw [hbd] at h2
        simp only [Bool.not_true, Bool.false_or, decide_eq_true_eq] at h2
        have h3 := ih e.on h2 (by omega)
        simp [bits, show e.on < ops.size by omega, h3]
      rw [hr] at hin
      cases hin
/-- Whatever has come up I is true; then all that is left is what comes behind. -/
theorem dr_inv (I : Nat → Env → World → Prop)
    (hstep : ∀ m σ w i o, I m σ w → i < ops.size → m.testBit i = false → ops[i]? = some o → (∀ e ∈ o.after, Region.binds .any e = true → m.testBit e.on = true) →
      guardOf ops σ o.guard = some true ∧ dstOk n o.dst = true ∧ OpTo P n σ o w fun v w' => (i ∉ T → S w → S w') ∧ I (m ||| 2 ^ i) (put σ o.dst v) w')
    (hdone : ∀ m σ w, I m σ w → Region.ready .any ops (bits ops.size m) = [] → Rn P f n k R σ w) :
    ∀ (fuel m : Nat) (σ : Env) (w : World), cntN ops.size m ≤ fuel → I m σ w → Dr P f n ops k R S T fuel m σ w := by
  intro fuel
  induction fuel with
  | zero =>
    intro m σ w hc hI a ha hdf hcl
    have hr : Region.ready .any ops (bits ops.size m) = [] := by
      refine List.eq_nil_iff_forall_not_mem.2 fun i hi => ?_
      obtain ⟨h1, h2, _⟩ := ready_bit hi
      rw [cntN_zero m ops.size (by omega) i h1] at h2
      cases h2
    exact ⟨hr, .inl ⟨rfl, hdone m σ w hI hr a ha hdf⟩⟩
  | succ fuel ih =>
    intro m σ w hc hI a ha hdf hcl
    refine ⟨fun hr => .inl ⟨rfl, hdone m σ w hI hr a ha hdf⟩, fun i hi => ?_⟩
    have hc' := hcl.set hi
    obtain ⟨h1, h2, o, ho, h3⟩ := ready_bit hi
    obtain ⟨hg, hd, h⟩ := hstep m σ w i o hI h1 h2 ho h3
    unfold wpOp
    simp only [ho, guardOf_spec ha hg, if_true]
    refine .inl (h a ha _ _ fun v w' hv => ⟨hv.1, ?_⟩)
    rw [bits_set] at hc' ⊢
    exact ih _ _ _ (by have := cntN_set m i h2 ops.size h1; omega) hv.2 _ (ha.put _ v hd) ((put_defers _ _ _).trans hdf) hc'
end
end E
end Go.Proofs.YtmplkogkphmmjagGreat

/- The first look of the laws of package life: the program that counts. -/
namespace Go.Proofs.YtmplkogkphmmjagGreat
set_option maxRecDepth 20000
set_option maxHeartbeats 4000000
namespace E
open Go.Proofs

def nil0 : Value := .slice none 0 0
def cA : List Value := [.int .i64 2, .int .i64 0, .int .i64 0, .slice none 0 0]
def cN (n : Int) : List Value := [.int .i64 1, .int .i64 0, .int .i64 n, .slice none 0 0]
def cZ : List Value := [.int .i64 0, .int .i64 0, .int .i64 0, .slice none 0 0]
def cE (op : Int) (b : Nat) : List Value := [.int .i64 op, .int .i64 0, .int .i64 0, .slice (some ⟨b, 0, none⟩) 2 2]
def c1 (b : Nat) : List Value := scells 1 0 (cE 4 b) cZ (.slice none 0 0) (.slice none 0 0)
def c2 : List Value := scells 3 0 cA cZ (.slice none 0 0) (.slice none 0 0)
def c3 : List Value := scells 7 0 cZ cZ (.slice none 0 0) (.slice none 0 0)
def c4 (e c : Nat) : List Value := scells 5 0 (cE 7 e) cZ (.slice (some ⟨c, 0, none⟩) 3 3) (.slice none 0 0)
def cV : List Value := [.string ⟨#[97]⟩, .int .i64 1]
theorem built_cV : Tryz.prog.built 97 [(0, .string ⟨#[97]⟩), (1, .int .i64 1)] = some cV.toArray := by kernel_rfl
theorem built_cA : Tryz.prog.built 94 [(0, .int .i64 2)] = some cA.toArray := by kernel_rfl
theorem built_cN (n : Int) : Tryz.prog.built 94 [(0, .int .i64 1), (2, .int .i64 n)] = some (cN n).toArray := by kernel_rfl
theorem built_cE7 (b : Nat) : Tryz.prog.built 94 [(0, .int .i64 7), (3, .slice (some ⟨b, 0, none⟩) 2 2)] = some (cE 7 b).toArray := by kernel_rfl
theorem built_cE4 (b : Nat) : Tryz.prog.built 94 [(0, .int .i64 4), (3, .slice (some ⟨b, 0, none⟩) 2 2)] = some (cE 4 b).toArray := by kernel_rfl
theorem built_c1 (b : Nat) : Tryz.prog.built 99 [(0, .int .i64 1), (2, .agg (cE 4 b).toArray)] = some (c1 b).toArray := by kernel_rfl
theorem built_c2 : Tryz.prog.built 99 [(0, .int .i64 3), (2, .agg cA.toArray)] = some c2.toArray := by kernel_rfl
theorem built_c3 : Tryz.prog.built 99 [(0, .int .i64 7)] = some c3.toArray := by kernel_rfl
theorem built_c4 (e c : Nat) : Tryz.prog.built 99 [(0, .int .i64 5), (2, .agg (cE 7 e).toArray), (4, .slice (some ⟨c, 0, none⟩) 3 3)] = some (c4 e c).toArray := by kernel_rfl
theorem built_cP (a d : Nat) : Tryz.prog.built 25 [(0, .slice (some ⟨a, 0, none⟩) 1 1), (1, .slice (some ⟨d, 0, none⟩) 1 1)] = some [Value.slice (some ⟨a, 0, none⟩) 1 1, .slice (some ⟨d, 0, none⟩) 1 1].toArray := by kernel_rfl
theorem slice_cV : sliceCells Tryz.prog 22 1 [(0, .agg cV.toArray)] = some (97, cV.toArray) := by kernel_rfl
theorem slice_cE (n : Int) : sliceCells Tryz.prog 92 2 [(0, .agg cA.toArray), (1, .agg (cN n).toArray)] = some (94, (cA ++ cN n).toArray) := by kernel_rfl
theorem slice_c3 (b : Nat) : sliceCells Tryz.prog 23 3 [(0, .agg (c1 b).toArray), (1, .agg c2.toArray), (2, .agg c3.toArray)] = some (99, (c1 b ++ c2 ++ c3).toArray) := by kernel_rfl
theorem slice_c4 (e c : Nat) : sliceCells Tryz.prog 23 1 [(0, .agg (c4 e c).toArray)] = some (99, (c4 e c).toArray) := by kernel_rfl
theorem zero_cE : ((Tryz.prog.info? 94).bind (·.zero)).map (·.cells) = some cZ.toArray := by kernel_rfl
theorem zero_cP : ((Tryz.prog.info? 25).bind (·.zero)).map (·.cells) = some [Value.slice none 0 0, .slice none 0 0].toArray := by kernel_rfl
theorem size_cE : sizeOk Tryz.prog 94 4 = true := by kernel_rfl
theorem size_cP : sizeOk Tryz.prog 25 2 = true := by kernel_rfl
theorem one_cE (a b c : Int) (o : Option Addr) (n k : Nat) : ∀ u ∈ [Value.int .i64 a, .int .i64 b, .int .i64 c, .slice o n k], u.oneCell' = true := by
  intro u hu
  simp only [List.mem_cons, List.not_mem_nil, or_false] at hu
  rcases hu with rfl | rfl | rfl | rfl <;> rfl
theorem one_cP (a b : Option Addr) (n k m d : Nat) : ∀ u ∈ [Value.slice a n k, .slice b m d], u.oneCell' = true := by
  intro u hu
  simp only [List.mem_cons, List.not_mem_nil, or_false] at hu
  rcases hu with rfl | rfl <;> rfl

theorem counter1_ret (n : Int) (w : World) : Ret Tryz.prog 34 [.int .i64 n] w fun r w' => r = .agg (cN n).toArray ∧ Keep [] w w' := by
  refine ret_of 5 Tryz.func34 rfl rfl (by simp) ?_
  refine au ?_
  refine pl_op rfl rfl (opTo_allocN _ rfl zero_cE ?_)
  intro w1 x1 hx1 hs1 hk1 hb1
  refine au ?_
  refine pl_val _ rfl rfl (val_build _ rfl rfl (built_cN n) w1) ?_
  refine pl_op rfl rfl (opTo_storeN (cN n) rfl rfl rfl rfl size_cE hb1 (by simp [cZ, cN]) (one_cE _ _ _ _ _ _) ?_)
  intro w2 hs2 hk2 hb2
  rw [splice_whole (by rfl)] at hb2
  refine au ?_
  exact rn_ret Tryz.func34 (.inr (.inr (.inl ⟨_, _, _, rfl, rfl, blk_loadVar hT hb2 rfl⟩))) ⟨rfl, hk1.trB hk2 (by omega)⟩

/-- What each part of the program is, whatever has come up ahead of it. -/
def cQ : Nat → Value → World → Prop
  | 0, v, _ => v = .agg cV.toArray
  | 1, v, w => ∃ a, v = .slice (some ⟨a, 0, none⟩) 1 1 ∧ Blk w a cV 97
  | 2, v, _ => v = .agg cA.toArray
  | 3, v, _ => v = .func (.func 34) #[] #[]
  | 4, v, _ => v = .agg (cN 3).toArray
  | 5, v, w => ∃ e, v = .slice (some ⟨e, 0, none⟩) 2 2 ∧ Blk w e (cA ++ cN 3) 94
  | 6, v, w => ∃ e, v = .agg (cE 7 e).toArray ∧ Blk w e (cA ++ cN 3) 94
  | 7, v, _ => v = .agg cA.toArray
  | 8, v, _ => v = .func (.func 34) #[] #[]
  | 9, v, _ => v = .agg (cN 1).toArray
  | 10, v, w => ∃ b, v = .slice (some ⟨b, 0, none⟩) 2 2 ∧ Blk w b (cA ++ cN 1) 94
  | 11, v, w => ∃ b, v = .agg (cE 4 b).toArray ∧ Blk w b (cA ++ cN 1) 94
  | 12, v, w => ∃ b, v = .agg (c1 b).toArray ∧ Blk w b (cA ++ cN 1) 94
  | 13, v, _ => v = .agg cA.toArray
  | 14, v, _ => v = .agg c2.toArray
  | 15, v, _ => v = .agg c3.toArray
  | 16, v, w => ∃ b c, v = .slice (some ⟨c, 0, none⟩) 3 3 ∧ Blk w b (cA ++ cN 1) 94 ∧ Blk w c (c1 b ++ c2 ++ c3) 99
  | 17, v, w => ∃ b c e, v = .agg (c4 e c).toArray ∧ Blk w e (cA ++ cN 3) 94 ∧ Blk w b (cA ++ cN 1) 94 ∧ Blk w c (c1 b ++ c2 ++ c3) 99
  | 18, v, w => ∃ b c e d, v = .slice (some ⟨d, 0, none⟩) 1 1 ∧ Blk w e (cA ++ cN 3) 94 ∧ Blk w b (cA ++ cN 1) 94 ∧ Blk w c (c1 b ++ c2 ++ c3) 99 ∧ Blk w d (c4 e c) 99
  | 19, v, w => ∃ a b c e d, v = .agg [Value.slice (some ⟨a, 0, none⟩) 1 1, .slice (some ⟨d, 0, none⟩) 1 1].toArray ∧ Blk w a cV 97 ∧ Blk w e (cA ++ cN 3) 94 ∧ Blk w b (cA ++ cN 1) 94 ∧ Blk w c (c1 b ++ c2 ++ c3) 99 ∧ Blk w d (c4 e c) 99
  | _, _, _ => False
theorem cQ_keep {w w' : World} (hk : Keep [] w w') : ∀ (j : Nat) (v : Value), cQ j v w → cQ j v w'
  | 0, _, h | 2, _, h | 3, _, h | 4, _, h | 7, _, h | 8, _, h | 9, _, h | 13, _, h | 14, _, h | 15, _, h => h
  | 1, _, ⟨a, h1, h2⟩ | 5, _, ⟨a, h1, h2⟩ | 6, _, ⟨a, h1, h2⟩ | 10, _, ⟨a, h1, h2⟩ | 11, _, ⟨a, h1, h2⟩ | 12, _, ⟨a, h1, h2⟩ => ⟨a, h1, hk.blk h2 (by simp)⟩
  | 16, _, ⟨b, c, h1, h2, h3⟩ => ⟨b, c, h1, hk.blk h2 (by simp), hk.blk h3 (by simp)⟩
  | 17, _, ⟨b, c, e, h1, h2, h3, h4⟩ => ⟨b, c, e, h1, hk.blk h2 (by simp), hk.blk h3 (by simp), hk.blk h4 (by simp)⟩
  | 18, _, ⟨b, c, e, d, h1, h2, h3, h4, h5⟩ => ⟨b, c, e, d, h1, hk.blk h2 (by simp), hk.blk h3 (by simp), hk.blk h4 (by simp), hk.blk h5 (by simp)⟩
  | 19, _, ⟨a, b, c, e, d, h1, h2, h3, h4, h5, h6⟩ => ⟨a, b, c, e, d, h1, hk.blk h2 (by simp), hk.blk h3 (by simp), hk.blk h4 (by simp), hk.blk h5 (by simp), hk.blk h6 (by simp)⟩
  | _ + 20, _, h => h.elim
/-- Which slot each of them lies in. -/
def cT : List (Nat × Nat) := [(0, 4), (1, 5), (2, 6), (3, 7), (4, 8), (5, 9), (6, 10), (7, 11), (8, 12), (9, 13), (10, 14), (11, 15), (12, 16), (13, 17), (14, 18), (15, 19), (16, 20), (17, 21), (18, 22), (19, 23)]
theorem cT_inj : ∀ p ∈ cT, ∀ q ∈ cT, p.1 = q.1 ↔ p.2 = q.2 := by decide
def cB : List ST := [.mk 5 0 (.mk 7 0 0 [.mk 2 0 0 [], .mk 1 0 3 []]) zeroT [.mk 1 0 (.mk 4 0 0 [.mk 2 0 0 [], .mk 1 0 1 []]) zeroT [] [], .mk 3 0 (.mk 2 0 0 []) zeroT [] [], .mk 7 0 zeroT zeroT [] []] []]
def cVs : List VarT := [(⟨#[97]⟩, 1)]
theorem cProg {w : World} {a b c e d : Nat} (h2 : Blk w a cV 97) (h3 : Blk w e (cA ++ cN 3) 94) (h4 : Blk w b (cA ++ cN 1) 94) (h5 : Blk w c (c1 b ++ c2 ++ c3) 99) (h6 : Blk w d (c4 e c) 99) :
    ProgV (fun k => k < w.heap.size) w (.agg #[.slice (some ⟨a, 0, none⟩) 1 1, .slice (some ⟨d, 0, none⟩) 1 1]) cVs cB := by
  have hA : ExprV (fun k => k < w.heap.size) w cA (.mk 2 0 0 []) := ExprV.of ExprsV.nil
  have hZ : ExprV (fun k => k < w.heap.size) w cZ zeroT := ExprV.of ExprsV.nil
  have hN : ∀ n, ExprV (fun k => k < w.heap.size) w (cN n) (.mk 1 0 n []) := fun n => ExprV.of ExprsV.nil
  have hE : ∀ {b : Nat} {n : Int}, Blk w b (cA ++ cN n) 94 → ExprsV (fun k => k < w.heap.size) w (.slice (some ⟨b, 0, none⟩) 2 2) [.mk 2 0 0 [], .mk 1 0 n []] := fun {b n} hb => by
    refine ⟨_, 2, fun i => if i = 0 then cA else cN n, rfl, fun _ => ⟨b, 0, rfl, hb.lt, fun i hi => ?_⟩, fun i hi => ?_⟩
    · have hi : i < 2 := hi
      rcases (by omega : i = 0 ∨ i = 1) with rfl | rfl
      · exact hb.range rfl
      · exact hb.range rfl
    · have hi : i < 2 := hi
      rcases (by omega : i = 0 ∨ i = 1) with rfl | rfl
      · exact hA
      · exact hN n
  have hS3 : StmtsV (fun k => k < w.heap.size) w (.slice (some ⟨c, 0, none⟩) 3 3) [.mk 1 0 (.mk 4 0 0 [.mk 2 0 0 [], .mk 1 0 1 []]) zeroT [] [], .mk 3 0 (.mk 2 0 0 []) zeroT [] [], .mk 7 0 zeroT zeroT [] []] := by
    refine ⟨_, 3, fun i => if i = 0 then c1 b else if i = 1 then c2 else c3, rfl, fun _ => ⟨c, 0, rfl, h5.lt, fun i hi => ?_⟩, fun i hi => ?_⟩
    · have hi : i < 3 := hi
      rcases (by omega : i = 0 ∨ i = 1 ∨ i = 2) with rfl | rfl | rfl
      · exact h5.range rfl
      · exact h5.range rfl
      · exact h5.range rfl
    · have hi : i < 3 := hi
      rcases (by omega : i = 0 ∨ i = 1 ∨ i = 2) with rfl | rfl | rfl
      · exact StmtV.of (ExprV.of (hE h4)) hZ StmtsV.nil StmtsV.nil
      · exact StmtV.of hA hZ StmtsV.nil StmtsV.nil
      · exact StmtV.of hZ hZ StmtsV.nil StmtsV.nil
  refine ⟨_, _, rfl, ⟨_, 1, rfl, Nat.le_refl _, fun _ => ⟨a, 0, rfl, h2.lt, fun i hi => ?_⟩⟩, ⟨_, 1, fun _ => c4 e c, rfl, fun _ => ⟨d, 0, rfl, h6.lt, fun i hi => ?_⟩, fun i hi => ?_⟩⟩
  · have hi : i < 1 := hi
    obtain rfl : i = 0 := by omega
    exact h2.range rfl
  · have hi : i < 1 := hi
    obtain rfl : i = 0 := by omega
    exact h6.range rfl
  · have hi : i < 1 := hi
    obtain rfl : i = 0 := by omega
    exact StmtV.of (ExprV.of (hE h3)) hZ hS3 StmtsV.nil
end E
end Go.Proofs.YtmplkogkphmmjagGreat

/- The first look of the laws of package life: the program that counts, made; a life of it. -/
namespace Go.Proofs.YtmplkogkphmmjagGreat
set_option maxRecDepth 20000
set_option maxHeartbeats 4000000
namespace E
open Go.Proofs

theorem opTo_mono {P : Program} {n : Nat} {σ : Env} {o : Oper} {w : World} {K K' : Value → World → Prop} (h : OpTo P n σ o w K) (hk : ∀ v w', K v w' → K' v w') : OpTo P n σ o w K' := fun a ha next Q hn => h a ha next Q fun v w' hv => hn v w' (hk v w' hv)
theorem dep_bit {o : Oper} {m j : Nat} (haf : ∀ e ∈ o.after, Region.binds .any e = true → m.testBit e.on = true) (h : (o.after.any fun e => e.on == j && Region.binds .any e) = true) : m.testBit j = true := by
  rw [Array.any_eq_true'] at h
  obtain ⟨e, he, h2⟩ := h
  simp only [Bool.and_eq_true, beq_iff_eq] at h2
  rw [← h2.1]
  exact haf e he h2.2
theorem counter_ret (w : World) : Ret Tryz.prog 17 [] w fun r w' => (∃ a d, r = .agg #[.slice (some ⟨a, 0, none⟩) 1 1, .slice (some ⟨d, 0, none⟩) 1 1] ∧ ProgV (fun k => k < w'.heap.size) w' r cVs cB) ∧ Keep [] w w' := by
  refine ret_of 24 Tryz.func17 rfl rfl (by simp) ?_
  refine au ?_
  refine pl_op rfl rfl (opTo_allocN _ rfl zero_cP ?_)
  intro w1 x0 hx0 hs1 hk1 hb1
  refine au ?_
  refine pl_val _ rfl rfl (val_build _ rfl rfl built_cA w1) ?_
  refine pl_op rfl rfl (opTo_allocN _ rfl zero_cE ?_)
  intro w2 x2 hx2 hs2 hk2 hb2
  refine pl_op rfl rfl (opTo_storeN cA rfl rfl rfl rfl size_cE hb2 (by simp [cZ, cA]) (one_cE _ _ _ _ _ _) ?_)
  intro w3 hs3 hk3 hb3
  rw [splice_whole (by rfl)] at hb3
  have hk13 : Keep [] w1 w3 := hk2.trB hk3 (by omega)
  have hz3 := hk13.blk hb1 (by simp)
  refine au ?_
  refine rn_draw (fun _ => True) [] hMix ?_
  have hS : Keep [] w3 w3.drew := (Keep.refl _ _).drew
  have hb4 := hS.blk hb3 (by simp)
  have hz4 := hS.blk hz3 (by simp)
  generalize w3.drew = w4 at *
  refine dr_inv (fun m σ w' => Keep [x0] w4 w' ∧ look σ 0 = some (.pointer (some ⟨x0, 0, none⟩)) ∧ look σ 1 = some (.func (.func 34) #[] #[]) ∧ look σ 2 = some (.pointer (some ⟨x2, 0, none⟩)) ∧ Blk w' x2 cA 94 ∧
    ((m.testBit 20 = false ∧ Blk w' x0 [.slice none 0 0, .slice none 0 0] 25 ∧ ∀ p ∈ cT, m.testBit p.1 = true → ∃ v, look σ p.2 = some v ∧ cQ p.1 v w') ∨
     ((∀ j, j < 21 → m.testBit j = true) ∧ ∃ a b c e d, Blk w' x0 [.slice (some ⟨a, 0, none⟩) 1 1, .slice (some ⟨d, 0, none⟩) 1 1] 25 ∧ Blk w' a cV 97 ∧ Blk w' e (cA ++ cN 3) 94 ∧ Blk w' b (cA ++ cN 1) 94 ∧ Blk w' c (c1 b ++ c2 ++ c3) 99 ∧ Blk w' d (c4 e c) 99))) ?_ ?_ _ _ _ _ (by decide +kernel) ⟨Keep.refl _ _, rfl, rfl, rfl, hb4, .inl ⟨rfl, hz4, fun p hp hbit => by simp at hbit⟩⟩
  · rintro m σ w' i o ⟨hk, l0, l1, l2, hx, hcase⟩ hi hbit ho haf
    have hi : i < 21 := hi
    rcases hcase with ⟨h20, hx0', hQ⟩ | ⟨hall, _⟩
    rotate_left
    · rw [hall i hi] at hbit
      cases hbit
    have dep : ∀ p ∈ cT, (o.after.any fun e => e.on == p.1 && Region.binds .any e) = true → ∃ v, look σ p.2 = some v ∧ cQ p.1 v w' := fun p hp h => hQ p hp (dep_bit haf h)
    have fin : ∀ t, (i, t) ∈ cT → o.dst = some t → OpTo Tryz.prog 24 σ o w' (fun v w'' => Keep [] w' w'' ∧ cQ i v w'') → OpTo Tryz.prog 24 σ o w' fun v w'' => (i ∉ [] → True → True) ∧ (Keep [x0] w4 w'' ∧ look (put σ o.dst v) 0 = some (.pointer (some ⟨x0, 0, none⟩)) ∧ look (put σ o.dst v) 1 = some (.func (.func 34) #[] #[]) ∧ look (put σ o.dst v) 2 = some (.pointer (some ⟨x2, 0, none⟩)) ∧ Blk w'' x2 cA 94 ∧
        (((m ||| 2 ^ i).testBit 20 = false ∧ Blk w'' x0 [.slice none 0 0, .slice none 0 0] 25 ∧ ∀ p ∈ cT, (m ||| 2 ^ i).testBit p.1 = true → ∃ v', look (put σ o.dst v) p.2 = some v' ∧ cQ p.1 v' w'') ∨
         ((∀ j, j < 21 → (m ||| 2 ^ i).testBit j = true) ∧ ∃ a b c e d, Blk w'' x0 [.slice (some ⟨a, 0, none⟩) 1 1, .slice (some ⟨d, 0, none⟩) 1 1] 25 ∧ Blk w'' a cV 97 ∧ Blk w'' e (cA ++ cN 3) 94 ∧ Blk w'' b (cA ++ cN 1) 94 ∧ Blk w'' c (c1 b ++ c2 ++ c3) 99 ∧ Blk w'' d (c4 e c) 99))) := fun t ht hd h => by
      have ht4 : 4 ≤ t ∧ i < 20 := by
        have : ∀ p ∈ cT, 4 ≤ p.2 ∧ p.1 < 20 := by decide
        exact this _ ht
      refine opTo_mono h fun v w'' ⟨hk', hq⟩ => ⟨fun _ _ => trivial, hk.tr0 hk', ?_⟩
      rw [hd]
      have hl : ∀ s, s ≠ t → look (put σ (some t) v) s = look σ s := fun s hs => by
        show look ((t, v) :: σ) s = _
        rw [look_cons, if_neg (fun e => hs e.symm)]
      refine ⟨(hl 0 (by omega)).trans l0, (hl 1 (by omega)).trans l1, (hl 2 (by omega)).trans l2, hk'.blk hx (by simp), .inl ⟨?_, hk'.blk hx0' (by simp), fun p hp hpb => ?_⟩⟩
      · rw [Nat.testBit_or, h20, Nat.testBit_two_pow]
        simp
        omega
      · by_cases e : p.1 = i
        · have e2 : p.2 = t := (cT_inj p hp (i, t) ht).1 e
          rw [e, e2]
          exact ⟨v, by show look ((t, v) :: σ) t = _; rw [look_cons, if_pos rfl], hq⟩
        · have e2 : p.2 ≠ t := fun e2 => e ((cT_inj p hp (i, t) ht).2 e2)
          rw [Nat.testBit_or, Nat.testBit_two_pow, show decide (i = p.1) = false by simp; omega, Bool.or_false] at hpb
          obtain ⟨v', h1, h2⟩ := hQ p hp hpb
          exact ⟨v', (hl _ e2).trans h1, cQ_keep hk' _ _ h2⟩
    rcases (by omega : i = 0 ∨ i = 1 ∨ i = 2 ∨ i = 3 ∨ i = 4 ∨ i = 5 ∨ i = 6 ∨ i = 7 ∨ i = 8 ∨ i = 9 ∨ i = 10 ∨ i = 11 ∨ i = 12 ∨ i = 13 ∨ i = 14 ∨ i = 15 ∨ i = 16 ∨ i = 17 ∨ i = 18 ∨ i = 19 ∨ i = 20) with rfl | rfl | rfl | rfl | rfl | rfl | rfl | rfl | rfl | rfl | rfl | rfl | rfl | rfl | rfl | rfl | rfl | rfl | rfl | rfl | rfl
    · obtain rfl := Option.some.inj ho
      refine ⟨rfl, rfl, fin 4 (by decide) rfl ?_⟩
      exact (val_build _ rfl rfl built_cV w').opTo ⟨Keep.refl _ _, rfl⟩
    · obtain rfl := Option.some.inj ho
      obtain ⟨v0, e0, rfl⟩ := dep (0, 4) (by decide) (by decide +kernel)
      refine ⟨rfl, rfl, fin 5 (by decide) rfl ?_⟩
      exact opTo_sliceN _ _ rfl (by simp [evParts, ev, e0]) slice_cV fun w1 b _ _ hk1 hbk => ⟨hk1, b, rfl, hbk⟩
    · obtain rfl := Option.some.inj ho
      refine ⟨rfl, rfl, fin 6 (by decide) rfl ?_⟩
      exact Val.opTo (v := .agg cA.toArray) (val_load cA hT rfl l2 rfl (hx.range rfl)) ⟨Keep.refl _ _, rfl⟩
    · obtain rfl := Option.some.inj ho
      refine ⟨rfl, rfl, fin 7 (by decide) rfl ?_⟩
      refine Val.opTo (v := .func (.func 34) #[] #[]) (val_pure hT ?_ w') ⟨Keep.refl _ _, rfl⟩
      exact l1
    · obtain rfl := Option.some.inj ho
      obtain ⟨v3, e3, rfl⟩ := dep (3, 7) (by decide) (by decide +kernel)
      refine ⟨rfl, rfl, fin 8 (by decide) rfl ?_⟩
      exact opTo_call (fst := []) (cap := []) rfl rfl e3 rfl (by decide +kernel) ((counter1_ret 3 w').mono fun v w'' h => ⟨h.2, h.1⟩)
    · obtain rfl := Option.some.inj ho
      obtain ⟨v2, e2, rfl⟩ := dep (2, 6) (by decide) (by decide +kernel)
      obtain ⟨v4, e4, rfl⟩ := dep (4, 8) (by decide) (by decide +kernel)
      refine ⟨rfl, rfl, fin 9 (by decide) rfl ?_⟩
      exact opTo_sliceN _ _ rfl (by simp [evParts, ev, e2, e4]) (slice_cE 3) fun w1 b _ _ hk1 hbk => ⟨hk1, b, rfl, hbk⟩
    · obtain rfl := Option.some.inj ho
      obtain ⟨v5, e5, ⟨b5, rfl, h5⟩⟩ := dep (5, 9) (by decide) (by decide +kernel)
      refine ⟨rfl, rfl, fin 10 (by decide) rfl ?_⟩
      exact (val_build _ rfl (by simp [evParts, ev, e5]) (built_cE7 b5) w').opTo ⟨Keep.refl _ _, b5, rfl, h5⟩
    · obtain rfl := Option.some.inj ho
      refine ⟨rfl, rfl, fin 11 (by decide) rfl ?_⟩
      exact Val.opTo (v := .agg cA.toArray) (val_load cA hT rfl l2 rfl (hx.range rfl)) ⟨Keep.refl _ _, rfl⟩
    · obtain rfl := Option.some.inj ho
      refine ⟨rfl, rfl, fin 12 (by decide) rfl ?_⟩
      refine Val.opTo (v := .func (.func 34) #[] #[]) (val_pure hT ?_ w') ⟨Keep.refl _ _, rfl⟩
      exact l1
    · obtain rfl := Option.some.inj ho
      obtain ⟨v8, e8, rfl⟩ := dep (8, 12) (by decide) (by decide +kernel)
      refine ⟨rfl, rfl, fin 13 (by decide) rfl ?_⟩
      exact opTo_call (fst := []) (cap := []) rfl rfl e8 rfl (by decide +kernel) ((counter1_ret 1 w').mono fun v w'' h => ⟨h.2, h.1⟩)
    · obtain rfl := Option.some.inj ho
      obtain ⟨v7, e7, rfl⟩ := dep (7, 11) (by decide) (by decide +kernel)
      obtain ⟨v9, e9, rfl⟩ := dep (9, 13) (by decide) (by decide +kernel)
      refine ⟨rfl, rfl, fin 14 (by decide) rfl ?_⟩
      exact opTo_sliceN _ _ rfl (by simp [evParts, ev, e7, e9]) (slice_cE 1) fun w1 b _ _ hk1 hbk => ⟨hk1, b, rfl, hbk⟩
    · obtain rfl := Option.some.inj ho
      obtain ⟨v10, e10, ⟨b5, rfl, h5⟩⟩ := dep (10, 14) (by decide) (by decide +kernel)
      refine ⟨rfl, rfl, fin 15 (by decide) rfl ?_⟩
      exact (val_build _ rfl (by simp [evParts, ev, e10]) (built_cE4 b5) w').opTo ⟨Keep.refl _ _, b5, rfl, h5⟩
    · obtain rfl := Option.some.inj ho
      obtain ⟨v11, e11, ⟨b5, rfl, h5⟩⟩ := dep (11, 15) (by decide) (by decide +kernel)
      refine ⟨rfl, rfl, fin 16 (by decide) rfl ?_⟩
      exact (val_build _ rfl (by simp [evParts, ev, e11]) (built_c1 b5) w').opTo ⟨Keep.refl _ _, b5, rfl, h5⟩
    · obtain rfl := Option.some.inj ho
      refine ⟨rfl, rfl, fin 17 (by decide) rfl ?_⟩
      exact Val.opTo (v := .agg cA.toArray) (val_load cA hT rfl l2 rfl (hx.range rfl)) ⟨Keep.refl _ _, rfl⟩
    · obtain rfl := Option.some.inj ho
      obtain ⟨v13, e13, rfl⟩ := dep (13, 17) (by decide) (by decide +kernel)
      refine ⟨rfl, rfl, fin 18 (by decide) rfl ?_⟩
      exact (val_build _ rfl (by simp [evParts, ev, e13]) built_c2 w').opTo ⟨Keep.refl _ _, rfl⟩
    · obtain rfl := Option.some.inj ho
      refine ⟨rfl, rfl, fin 19 (by decide) rfl ?_⟩
      exact (val_build _ rfl rfl built_c3 w').opTo ⟨Keep.refl _ _, rfl⟩
    · obtain rfl := Option.some.inj ho
      obtain ⟨v12, e12, ⟨b5, rfl, h5⟩⟩ := dep (12, 16) (by decide) (by decide +kernel)
      obtain ⟨v14, e14, rfl⟩ := dep (14, 18) (by decide) (by decide +kernel)
      obtain ⟨v15, e15, rfl⟩ := dep (15, 19) (by decide) (by decide +kernel)
      refine ⟨rfl, rfl, fin 20 (by decide) rfl ?_⟩
      exact opTo_sliceN _ _ rfl (by simp [evParts, ev, e12, e14, e15]) (slice_c3 b5) fun w1 c _ _ hk1 hbk => ⟨hk1, b5, c, rfl, hk1.blk h5 (by simp), hbk⟩
    · obtain rfl := Option.some.inj ho
      obtain ⟨v6, e6, ⟨b6, rfl, h6⟩⟩ := dep (6, 10) (by decide) (by decide +kernel)
      obtain ⟨v16, e16, ⟨b, c, rfl, h7, h8⟩⟩ := dep (16, 20) (by decide) (by decide +kernel)
      refine ⟨rfl, rfl, fin 21 (by decide) rfl ?_⟩
      exact (val_build _ rfl (by simp [evParts, ev, e6, e16]) (built_c4 b6 c) w').opTo ⟨Keep.refl _ _, b, c, b6, rfl, h6, h7, h8⟩
    · obtain rfl := Option.some.inj ho
      obtain ⟨v17, e17, ⟨b, c, e, rfl, h6, h7, h8⟩⟩ := dep (17, 21) (by decide) (by decide +kernel)
      refine ⟨rfl, rfl, fin 22 (by decide) rfl ?_⟩
      exact opTo_sliceN _ _ rfl (by simp [evParts, ev, e17]) (slice_c4 e c) fun w1 d _ _ hk1 hbk => ⟨hk1, b, c, e, d, rfl, hk1.blk h6 (by simp), hk1.blk h7 (by simp), hk1.blk h8 (by simp), hbk⟩
    · obtain rfl := Option.some.inj ho
      obtain ⟨v1, e1, ⟨a, rfl, h5⟩⟩ := dep (1, 5) (by decide) (by decide +kernel)
      obtain ⟨v18, e18, ⟨b, c, e, d, rfl, h6, h7, h8, h9⟩⟩ := dep (18, 22) (by decide) (by decide +kernel)
      refine ⟨rfl, rfl, fin 23 (by decide) rfl ?_⟩
      exact (val_build _ rfl (by simp [evParts, ev, e1, e18]) (built_cP a d) w').opTo ⟨Keep.refl _ _, a, b, c, e, d, rfl, h5, h6, h7, h8, h9⟩
    · obtain rfl := Option.some.inj ho
      obtain ⟨v19, e19, a, b, c, e, d, rfl, h5, h6, h7, h8, h9⟩ := dep (19, 23) (by decide) (by decide +kernel)
      have hall : ∀ j, j < 20 → m.testBit j = true := fun j hj => by
        rcases (by omega : j = 0 ∨ j = 1 ∨ j = 2 ∨ j = 3 ∨ j = 4 ∨ j = 5 ∨ j = 6 ∨ j = 7 ∨ j = 8 ∨ j = 9 ∨ j = 10 ∨ j = 11 ∨ j = 12 ∨ j = 13 ∨ j = 14 ∨ j = 15 ∨ j = 16 ∨ j = 17 ∨ j = 18 ∨ j = 19) with rfl | rfl | rfl | rfl | rfl | rfl | rfl | rfl | rfl | rfl | rfl | rfl | rfl | rfl | rfl | rfl | rfl | rfl | rfl | rfl <;> exact dep_bit haf (by decide +kernel)
      refine ⟨rfl, rfl, opTo_storeN [.slice (some ⟨a, 0, none⟩) 1 1, .slice (some ⟨d, 0, none⟩) 1 1] rfl l0 e19 rfl size_cP hx0' (by simp) (one_cP _ _ _ _ _ _) ?_⟩
      intro w5 hs5 hk5 hb5
      rw [splice_whole (by rfl)] at hb5
      refine ⟨fun _ _ => trivial, hk.tr hk5, l0, l1, l2, hk5.blk hx (by simp; exact Blk.ne hx hx0' (by decide)), .inr ⟨fun j hj => ?_, a, b, c, e, d, hb5, hk5.blk h5 (by simp; exact Blk.ne h5 hx0' (by decide)), hk5.blk h6 (by simp; exact Blk.ne h6 hx0' (by decide)), hk5.blk h7 (by simp; exact Blk.ne h7 hx0' (by decide)), hk5.blk h8 (by simp; exact Blk.ne h8 hx0' (by decide)), hk5.blk h9 (by simp; exact Blk.ne h9 hx0' (by decide))⟩⟩
      rw [Nat.testBit_or, Nat.testBit_two_pow]
      by_cases e20 : j = 20
      · subst e20; simp
      · rw [hall j (by omega)]; rfl
  · rintro m σ w5 ⟨hk, l0, l1, l2, hx, hcase⟩ hr
    rcases hcase with ⟨h20, _, hQ⟩ | ⟨hall, a, b, c, e, d, h0, h5, h6, h7, h8, h9⟩
    · exfalso
      have := ready_all (by decide +kernel) hr 20 (by decide)
      rw [h20] at this
      cases this
    · have hkw : Keep [] w w5 := ((hk1.tr hk13).tr hS).trB hk (by omega)
      refine rn_ret Tryz.func17 (.inr (.inr (.inl ⟨0, _, _, rfl, l0, blk_loadVar hT h0 rfl⟩))) ⟨⟨a, d, rfl, cProg h5 h6 h7 h8 h9⟩, hkw⟩
end E
end Go.Proofs.YtmplkogkphmmjagGreat

/- The first look of the laws of package life. -/
namespace Go.Proofs.YtmplkogkphmmjagGreat
set_option maxRecDepth 20000
set_option maxHeartbeats 4000000
namespace E
open Go.Proofs

def bL : List Sp := [(3, 99, 2, 0), (1, 20, 0, 0), (2, 0, 0, 0), (3, 99, 1, 1)]
theorem b_run : runF cVs cB [] bL 99 = ⟨0, [1, 2, 3], [3], 0, 0⟩ := by kernel_rfl
theorem built_b1 : Tryz.prog.built 37 [(0, .int .i64 3), (1, .int .i64 99), (2, .int .i64 2)] = some (spC (3, 99, 2, 0)).toArray := by kernel_rfl
theorem built_b2 : Tryz.prog.built 37 [(0, .int .i64 1), (1, .int .i64 20)] = some (spC (1, 20, 0, 0)).toArray := by kernel_rfl
theorem built_b3 : Tryz.prog.built 37 [(0, .int .i64 2)] = some (spC (2, 0, 0, 0)).toArray := by kernel_rfl
theorem built_b4 : Tryz.prog.built 37 [(0, .int .i64 3), (1, .int .i64 99), (2, .int .i64 1), (3, .int .u64 1)] = some (spC (3, 99, 1, 1)).toArray := by kernel_rfl
theorem slice_b : sliceCells Tryz.prog 27 4 [(0, .agg (spC (3, 99, 2, 0)).toArray), (1, .agg (spC (1, 20, 0, 0)).toArray), (2, .agg (spC (2, 0, 0, 0)).toArray), (3, .agg (spC (3, 99, 1, 1)).toArray)] = some (37, (bL.flatMap spC).toArray) := by kernel_rfl
theorem slice_l3 : sliceCells Tryz.prog 26 3 [(0, .int .i64 1), (1, .int .i64 2), (2, .int .i64 3)] = some (tLg, (lgs [1, 2, 3]).toArray) := by kernel_rfl
theorem slice_l1 : sliceCells Tryz.prog 26 1 [(0, .int .i64 3)] = some (tLg, (lgs [3]).toArray) := by kernel_rfl
theorem lies_new {w : World} {b n : Nat} {l : List Int} (hn : l.length = n) (h : Blk w b (lgs l) tLg) : LsV w (.slice (some ⟨b, 0, none⟩) n n) l := by
  subst hn
  exact ⟨_, _, rfl, fun _ => ⟨b, 0, rfl, h.lt, h.range (by simp)⟩⟩

theorem lifeBegun_ret {nw : List Is → List Int → Md → List Int → List Int} {LV : List VarT → List ST → List Int → Nat → World → Nat → List Nat → Lz → Prop} (I : LfI nw LV) (w : World) : Ret Tryz.prog 6 [] w fun r w' => r = .bool true ∧ Keep [] w w' := by
  refine ret_of 32 Tryz.func6 rfl rfl (by simp) ?_
  refine au ?_
  refine pl_op rfl rfl (opTo_call (fst := []) (cap := []) rfl rfl rfl rfl (by decide +kernel) ((counter_ret w).mono ?_))
  rintro r w1 ⟨⟨a, d, rfl, hP⟩, hk1⟩
  refine pl_val _ rfl rfl (val_build _ rfl rfl built_b1 w1) ?_
  refine pl_val _ rfl rfl (val_build _ rfl rfl built_b2 w1) ?_
  refine pl_val _ rfl rfl (val_build _ rfl rfl built_b3 w1) ?_
  refine pl_val _ rfl rfl (val_build _ rfl rfl built_b4 w1) ?_
  refine pl_op rfl rfl (opTo_sliceN _ _ rfl rfl slice_b ?_)
  intro w2 g hg hs2 hk2 hb2
  have hF : In (fun k => k < w1.heap.size) w1 := fun c hc => hc
  have hl : SpV w2 (.slice (some ⟨g, 0, none⟩) 4 4) bL := ⟨_, 4, rfl, fun _ => ⟨g, 0, rfl, hb2.lt, hb2.range (by rfl)⟩⟩
  refine pl_op rfl rfl (opTo_call (fst := []) (cap := []) rfl rfl rfl rfl (by decide +kernel) ((I.run (inp := []) 99 (hP.keep hk2 hF.stays) (hF.keep hk2) (ls_nil _) hl (by decide) (by decide) (by decide) (by decide) (by decide) (by decide)).mono ?_))
  rintro r w3 ⟨⟨ov, cv, rfl, hov, hcv, _⟩, hk3⟩
  rw [b_run] at hov hcv ⊢
  have hov' := hov
  have hcv' := hcv
  obtain ⟨oa, oc, rfl, _⟩ := hov'
  obtain ⟨ca, cc, rfl, _⟩ := hcv'
  refine au ?_
  refine pl_op rfl rfl (opTo_allocN _ rfl zero_re ?_)
  intro w4 x4 hx4 hs4 hk4 hb4
  refine pl_op rfl rfl (opTo_storeN (resC 0 (.slice oa 3 oc) (.slice ca 1 cc)) rfl rfl rfl rfl size_re hb4 (by simp [resC]) (resC_one _ _ _ _ _ _ _) ?_)
  intro w5 hs5 hk5 hb5
  rw [splice_whole (by rfl)] at hb5
  have hk35 : Keep [] w3 w5 := hk4.trB hk5 (by omega)
  refine au ?_
  refine ye ?_
  refine au ?_
  refine pl_val _ rfl rfl (val_load1 hT rfl rfl rfl (hb5.cell rfl)) ?_
  refine ye ?_
  refine au ?_
  refine pl_val _ rfl rfl (val_load1 hT rfl rfl rfl (hb5.cell rfl)) ?_
  refine pl_op rfl rfl (opTo_sliceN _ _ rfl rfl slice_l3 ?_)
  intro w6 g6 hg6 hs6 hk6 hb6
  refine pl_op rfl rfl (opTo_call (fst := []) (cap := []) rfl rfl rfl rfl (by decide +kernel) ((sameLs_ret ((hov.keep0 hk35).keep0 hk6) (lies_new (by rfl) hb6) (by decide)).mono ?_))
  rintro r w7 ⟨rfl, hk7⟩
  have hk57 := hk6.tr hk7
  have hb7 := hk57.blk hb5 (by simp)
  refine au ?_
  refine pl_val _ rfl rfl (val_load1 hT rfl rfl rfl (hb7.cell rfl)) ?_
  refine pl_op rfl rfl (opTo_sliceN _ _ rfl rfl slice_l1 ?_)
  intro w8 g8 hg8 hs8 hk8 hb8
  refine pl_op rfl rfl (opTo_call (fst := []) (cap := []) rfl rfl rfl rfl (by decide +kernel) ((sameLs_ret (((hcv.keep0 hk35).keep0 hk57).keep0 hk8) (lies_new (by rfl) hb8) (by decide)).mono ?_))
  rintro r w9 ⟨rfl, hk9⟩
  refine au ?_
  exact rn_ret Tryz.func6 (.inl ⟨_, rfl, rfl⟩) ⟨rfl, ((((hk1.tr hk2).tr hk3).tr hk35).tr hk57).tr (hk8.tr hk9)⟩
end E
end Go.Proofs.YtmplkogkphmmjagGreat
