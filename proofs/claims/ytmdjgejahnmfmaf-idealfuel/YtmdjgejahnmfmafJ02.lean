/- Several texts in one: CmM, ChkI, CmN, BeM, Ops2, StrOps, Own, Ops3, StepB, Rd. -/
import Derived.Test.YtmdjgejahnmfmafJ01
import Derived.Laws.CopyRow
import Derived.Laws.StructEq
import Derived.Laws.MakeOwn
import Derived.Deep.Slices
import Derived.OpenShut
/- Plain mathematics of instructions: those of a program; how many numbers are on the stack ahead of each. -/
namespace Go.Proofs.Ytmdjgejahnmfmaf
set_option maxRecDepth 20000
set_option maxHeartbeats 4000000
namespace E

/-- An instruction: Op, A, B, N. -/
abbrev Is := Int × Int × Int × Int
def sizeV (vs : List VarT) (v : Int) : Int := (vs.getD v.toNat (⟨#[]⟩, 0)).2
mutual
def insE (vs : List VarT) : ET → List Is
  | .mk op v n l => insEs vs l ++ [(op, if op = 2 ∨ op = 3 then cellOf vs v else 0, if op = 3 then sizeV vs v else 0, n)]
def insEs (vs : List VarT) : List ET → List Is
  | [] => []
  | t :: r => insE vs t ++ insEs vs r
end
/-- The last one of a statement in which no others stand. -/
def lastI (vs : List VarT) (op v : Int) : Is :=
  if op = 1 then (9, cellOf vs v, 0, 0) else if op = 2 then (10, cellOf vs v, sizeV vs v, 0) else if op = 3 then (11, 0, 0, 0) else if op = 4 then (12, cellOf vs v, 0, 0) else (15, 0, 0, 0)
def whileI (i0 : Nat) (l b : List Is) : List Is := l ++ ((13, ((i0 + l.length + 1 + b.length + 1 : Nat) : Int), 0, 0) :: (b ++ [(14, ((i0 : Nat) : Int), 0, 0)]))
def ifI (i0 : Nat) (l b o : List Is) : List Is := l ++ ((13, ((i0 + l.length + 1 + b.length + 1 : Nat) : Int), 0, 0) :: (b ++ ((14, ((i0 + l.length + 1 + b.length + 1 + o.length : Nat) : Int), 0, 0) :: o)))
def eI (vs : List VarT) (op : Int) (e : ET) : List Is := if needE op then insE vs e else []
def fI (vs : List VarT) (op : Int) (f : ET) : List Is := if needF op then insE vs f else []
mutual
/-- Those of a statement that begins at i0. -/
def insS (vs : List VarT) : ST → Nat → List Is
  | .mk op v e f b o, i0 =>
    if op = 5 then whileI i0 (eI vs op e) (insSs vs b (i0 + (eI vs op e).length + 1))
    else if op = 6 then ifI i0 (eI vs op e) (insSs vs b (i0 + (eI vs op e).length + 1)) (insSs vs o (i0 + (eI vs op e).length + 1 + (insSs vs b (i0 + (eI vs op e).length + 1)).length + 1))
    else eI vs op e ++ (fI vs op f ++ [lastI vs op v])
def insSs (vs : List VarT) : List ST → Nat → List Is
  | [], _ => []
  | t :: r, i0 => insS vs t i0 ++ insSs vs r (i0 + (insS vs t i0).length)
end
/-- Those of a program. -/
def haltI : Is := (16, 0, 0, 0)
def insP (vs : List VarT) (b : List ST) : List Is := insSs vs b 0 ++ [haltI]
/-- What Make tells: instructions, or a code. -/
def makeOf (vs : List VarT) (b : List ST) : List Is := if progFault vs b = 0 then insP vs b else []

theorem insEs_append (vs : List VarT) : ∀ (a b : List ET), insEs vs (a ++ b) = insEs vs a ++ insEs vs b
  | [], b => by simp [insEs]
  | t :: r, b => by simp only [List.cons_append, insEs, insEs_append vs r b, List.append_assoc]
theorem insSs_append (vs : List VarT) : ∀ (a b : List ST) (i0 : Nat), insSs vs (a ++ b) i0 = insSs vs a i0 ++ insSs vs b (i0 + (insSs vs a i0).length)
  | [], b, i0 => by simp [insSs]
  | t :: r, b, i0 => by
    simp only [List.cons_append, insSs, insSs_append vs r b, List.append_assoc, List.length_append]
    rw [Nat.add_assoc]
theorem insEs_take (vs : List VarT) {l : List ET} {i : Nat} {t : ET} (h : l[i]? = some t) : insEs vs (l.take (i + 1)) = insEs vs (l.take i) ++ insE vs t := by
  obtain ⟨hi, rfl⟩ := List.getElem?_eq_some_iff.1 h
  rw [List.take_succ_eq_append_getElem hi, insEs_append]
  simp [insEs]
theorem insSs_take (vs : List VarT) {l : List ST} {i : Nat} {t : ST} (h : l[i]? = some t) (i0 : Nat) : insSs vs (l.take (i + 1)) i0 = insSs vs (l.take i) i0 ++ insS vs t (i0 + (insSs vs (l.take i) i0).length) := by
  obtain ⟨hi, rfl⟩ := List.getElem?_eq_some_iff.1 h
  rw [List.take_succ_eq_append_getElem hi, insSs_append]
  simp [insSs]

/-! ### How many there are -/
mutual
theorem insE_len (vs : List VarT) : ∀ (t : ET), (insE vs t).length = szE t
  | .mk op v n l => by simp [insE, szE, insEs_len vs l]; omega
theorem insEs_len (vs : List VarT) : ∀ (l : List ET), (insEs vs l).length = szEs l
  | [] => by simp [insEs, szEs]
  | t :: r => by simp [insEs, szEs, insE_len vs t, insEs_len vs r]
end
theorem eI_len (vs : List VarT) (op : Int) (e : ET) : (eI vs op e).length ≤ szE e := by
  unfold eI
  split
  · rw [insE_len]; exact Nat.le_refl _
  · simp
theorem fI_len (vs : List VarT) (op : Int) (f : ET) : (fI vs op f).length ≤ szE f := by
  unfold fI
  split
  · rw [insE_len]; exact Nat.le_refl _
  · simp
mutual
theorem insS_len (vs : List VarT) : ∀ (t : ST) (i0 : Nat), (insS vs t i0).length ≤ 2 * szS t
  | .mk op v e f b o, i0 => by
    have h1 := eI_len vs op e
    have h2 := fI_len vs op f
    have h3 := insSs_len vs b (i0 + (eI vs op e).length + 1)
    have h4 := insSs_len vs o (i0 + (eI vs op e).length + 1 + (insSs vs b (i0 + (eI vs op e).length + 1)).length + 1)
    simp only [insS, szS]
    split
    · simp [whileI]; omega
    · split
      · simp [ifI]; omega
      · simp; omega
theorem insSs_len (vs : List VarT) : ∀ (l : List ST) (i0 : Nat), (insSs vs l i0).length ≤ 2 * szSs l
  | [], _ => by simp [insSs, szSs]
  | t :: r, i0 => by
    have h1 := insS_len vs t i0
    have h2 := insSs_len vs r (i0 + (insS vs t i0).length)
    simp only [insSs, szSs, List.length_append]
    omega
end

/-! ### The stack -/
def popI (op : Int) : Nat := if op = 3 ∨ op = 9 ∨ op = 11 ∨ op = 13 then 1 else if (4 ≤ op ∧ op ≤ 8) ∨ op = 10 then 2 else 0
def pushI (op : Int) : Nat := if 1 ≤ op ∧ op ≤ 8 then 1 else 0
/-- An instruction may stand where so many numbers are on the stack. -/
structure OkI (cells : Int) (n : Nat) (x : Is) : Prop where
  pop : popI x.1 ≤ n
  room : n - popI x.1 + pushI x.1 ≤ 24
  jump : x.1 = 13 ∨ x.1 = 14 → n - popI x.1 + pushI x.1 = 0
  halt : x.1 ≠ 16
  cell : x.1 = 2 ∨ x.1 = 9 ∨ x.1 = 12 → 0 ≤ x.2.1 ∧ x.2.1 < cells
  many : x.1 = 3 ∨ x.1 = 10 → 0 ≤ x.2.1 ∧ 1 ≤ x.2.2.1 ∧ x.2.1 + x.2.2.1 ≤ cells
/-- From n numbers on the stack these instructions go to m. -/
inductive Sim (cells : Int) : Nat → List Is → Nat → Prop
  | nil (n : Nat) : Sim cells n [] n
  | cons {n m : Nat} {x : Is} {r : List Is} (h : OkI cells n x) (hr : Sim cells (n - popI x.1 + pushI x.1) r m) : Sim cells n (x :: r) m
theorem Sim.app {c : Int} {n m k : Nat} {a b : List Is} (h : Sim c n a m) (h' : Sim c m b k) : Sim c n (a ++ b) k := by
  induction h with
  | nil => exact h'
  | cons h _ ih => exact .cons h (ih h')
theorem Sim.one {c : Int} {n : Nat} {x : Is} (h : OkI c n x) : Sim c n [x] (n - popI x.1 + pushI x.1) := .cons h (.nil _)
theorem Sim.one' {c : Int} {n m : Nat} {x : Is} (h : OkI c n x) (hm : n - popI x.1 + pushI x.1 = m) : Sim c n [x] m := hm ▸ Sim.one h
theorem Sim.det {c : Int} {n m m' : Nat} {a : List Is} (h : Sim c n a m) (h' : Sim c n a m') : m = m' := by
  induction h with
  | nil => cases h'; rfl
  | cons _ _ ih => cases h' with | cons _ h2 => exact ih h2
/-- At each place so many. -/
theorem Sim.at {c : Int} {n m : Nat} {a : List Is} (h : Sim c n a m) : ∀ (i : Nat), i ≤ a.length → ∃ k, Sim c n (a.take i) k ∧ ∀ x, a[i]? = some x → OkI c k x ∧ Sim c n (a.take (i + 1)) (k - popI x.1 + pushI x.1) := by
  induction h with
  | nil n => intro i hi; exact ⟨n, by simp only [List.take_nil]; exact .nil n, fun x hx => by simp at hx⟩
  | @cons n m x r hx hr ih =>
    intro i hi
    cases i with
    | zero => exact ⟨n, .nil n, fun y hy => by simp at hy; subst hy; exact ⟨hx, by simp only [List.take_succ_cons, List.take_zero]; exact Sim.one hx⟩⟩
    | succ i =>
      obtain ⟨k, h1, h2⟩ := ih i (by simpa using hi)
      exact ⟨k, .cons hx h1, fun y hy => by
        obtain ⟨h3, h4⟩ := h2 y (by simpa using hy)
        exact ⟨h3, .cons hx h4⟩⟩

/-! ### Cells -/
def Big (vs : List VarT) : Prop := ∀ x ∈ vs, 1 ≤ x.2
theorem sumV_big : ∀ {vs : List VarT}, Big vs → 0 ≤ sumV vs
  | [], _ => by simp [sumV]
  | x :: r, h => by
    have h1 := h x (by simp)
    have h2 := sumV_big (vs := r) fun y hy => h y (by simp [hy])
    simp only [sumV, List.map_cons, List.sum_cons] at h2 ⊢
    omega
theorem cell_nat : ∀ (vs : List VarT), Big vs → ∀ (k : Nat), k < vs.length → 0 ≤ sumV (vs.take k) ∧ 1 ≤ (vs.getD k (⟨#[]⟩, 0)).2 ∧ sumV (vs.take k) + (vs.getD k (⟨#[]⟩, 0)).2 ≤ sumV vs
  | [], _, k, hk => by simp at hk
  | x :: r, h, 0, _ => by
    have h1 := h x (by simp)
    have h2 := sumV_big (vs := r) fun y hy => h y (by simp [hy])
    simp only [sumV, List.take_zero, List.map_nil, List.sum_nil, List.map_cons, List.sum_cons, List.getD_cons_zero] at h2 ⊢
    omega
  | x :: r, h, k + 1, hk => by
    have h1 := h x (by simp)
    have ih := cell_nat r (fun y hy => h y (by simp [hy])) k (by simpa using hk)
    simp only [sumV, List.take_succ_cons, List.map_cons, List.sum_cons, List.getD_cons_succ] at ih ⊢
    omega
theorem cell_in {vs : List VarT} (h : Big vs) {v : Int} (hv : v.toNat < vs.length) : 0 ≤ cellOf vs v ∧ 1 ≤ sizeV vs v ∧ cellOf vs v + sizeV vs v ≤ sumV vs := cell_nat vs h _ hv
end E
end Go.Proofs.Ytmdjgejahnmfmaf

/- Plain mathematics of programs: what a check tells of their parts. -/
namespace Go.Proofs.Ytmdjgejahnmfmaf
set_option maxRecDepth 20000
set_option maxHeartbeats 4000000
namespace E

def zeroT : ET := .mk 0 0 0 []
/-! ### What a check tells -/
theorem chkE_inv {nv : Nat} {op v n : Int} {l : List ET} {d k k' : Nat} (h : chkE nv (.mk op v n l) d k = .ok k') : d ≤ 12 ∧ ownE nv op v n l.length = 0 ∧ ∃ k1, chkEs nv l (d + 1) k1 = .ok k' := by
  simp only [chkE] at h
  obtain ⟨k1, h1, h2⟩ := nextK_ok h
  split at h2
  · cases h2
  · rename_i h3
    exact ⟨(headK_ok h1).2.1, by simpa using h3, k1, h2⟩
theorem chkEs_inv {nv : Nat} {t : ET} {r : List ET} {d k k' : Nat} (h : chkEs nv (t :: r) d k = .ok k') : (∃ k1, chkE nv t d k = .ok k1) ∧ ∃ k1, chkEs nv r d k1 = .ok k' := by
  simp only [chkEs] at h
  obtain ⟨k1, h1, h2⟩ := nextK_ok h
  exact ⟨⟨k1, h1⟩, k1, h2⟩
theorem chkS_inv {nv : Nat} {op v : Int} {e f : ET} {b o : List ST} {d k k' : Nat} (h : chkS nv (.mk op v e f b o) d k = .ok k') : d ≤ 12 ∧ ownS nv op v e f b.length o.length = 0 ∧
    (needE op = true → ∃ k1 k2, chkE nv e (d + 1) k1 = .ok k2) ∧ (needF op = true → ∃ k1 k2, chkE nv f (d + 1) k1 = .ok k2) ∧ (∃ k1 k2, chkSs nv b (d + 1) k1 = .ok k2) ∧ ∃ k1 k2, chkSs nv o (d + 1) k1 = .ok k2 := by
  simp only [chkS] at h
  obtain ⟨k1, h1, h2⟩ := nextK_ok h
  split at h2
  · cases h2
  · rename_i h3
    obtain ⟨k2, h4, h5⟩ := nextK_ok h2
    obtain ⟨k3, h6, h7⟩ := nextK_ok h5
    obtain ⟨k4, h8, h9⟩ := nextK_ok h7
    refine ⟨(headK_ok h1).2.1, by simpa using h3, fun he => ⟨k1, k2, ?_⟩, fun hf => ⟨k2, k3, ?_⟩, ⟨_, _, h8⟩, _, _, h9⟩
    · rw [if_pos he] at h4; exact h4
    · rw [if_pos hf] at h6; exact h6
theorem chkSs_inv {nv : Nat} {t : ST} {r : List ST} {d k k' : Nat} (h : chkSs nv (t :: r) d k = .ok k') : (∃ k1, chkS nv t d k = .ok k1) ∧ ∃ k1, chkSs nv r d k1 = .ok k' := by
  simp only [chkSs] at h
  obtain ⟨k1, h1, h2⟩ := nextK_ok h
  exact ⟨⟨k1, h1⟩, k1, h2⟩
theorem varK_in {nv : Nat} {v : Int} (h : varK nv v true = 0) : 0 ≤ v ∧ v.toNat < nv := by
  unfold varK at h
  rw [if_pos rfl] at h
  split at h
  · cases h
  · omega
theorem varK_no {nv : Nat} {v : Int} (h : varK nv v false = 0) : v = 0 := by
  unfold varK at h
  rw [if_neg (by decide)] at h
  split at h
  · cases h
  · omega
theorem ownE_inv {nv : Nat} {op v n : Int} {len : Nat} (h : ownE nv op v n len = 0) : 1 ≤ op ∧ op ≤ 8 ∧ partsOf op = (len : Int) ∧ (op ≠ 1 → n = 0) ∧ (op = 2 ∨ op = 3 → 0 ≤ v ∧ v.toNat < nv) ∧ (¬ (op = 2 ∨ op = 3) → v = 0) := by
  unfold ownE at h
  split at h
  · cases h
  · rename_i h1
    split at h
    · cases h
    · rename_i h2
      split at h
      · cases h
      · rename_i h3
        have hop : 1 ≤ op ∧ op ≤ 8 := by
          unfold partsOf at h1
          split at h1
          · omega
          · split at h1
            · omega
            · split at h1 <;> omega
        refine ⟨hop.1, hop.2, by simpa using h2, fun h4 => ?_, fun h4 => ?_, fun h4 => ?_⟩
        · by_cases hn : n = 0
          · exact hn
          · exact absurd ⟨h4, hn⟩ h3
        · have e : (op == 2 || op == 3) = true := by simpa using h4
          rw [e] at h
          exact varK_in h
        · have e : (op == 2 || op == 3) = false := by
            cases hb : (op == 2 || op == 3) with
            | false => rfl
            | true => exact absurd (by simpa using hb) h4
          rw [e] at h
          exact varK_no h
theorem zeroT_eq {t : ET} (h : zeroE t = true) : t = zeroT := by
  obtain ⟨op, v, n, l⟩ := t
  simp only [zeroE, Bool.and_eq_true, beq_iff_eq, List.isEmpty_iff] at h
  obtain ⟨⟨⟨rfl, rfl⟩, rfl⟩, rfl⟩ := h
  rfl
theorem ownS_inv {nv : Nat} {op v : Int} {e f : ET} {lb lo : Nat} (h : ownS nv op v e f lb lo = 0) : 1 ≤ op ∧ op ≤ 7 ∧ (needE op = false → e = zeroT) ∧ (needF op = false → f = zeroT) ∧ (needB op = false → lb = 0) ∧ (needO op = false → lo = 0) ∧
    (needV op = true → 0 ≤ v ∧ v.toNat < nv) ∧ (needV op = false → v = 0) := by
  unfold ownS at h
  split at h
  · cases h
  · rename_i h1
    split at h
    · cases h
    · rename_i h2
      split at h
      · cases h
      · rename_i h3
        simp only [Bool.or_eq_true, Bool.and_eq_true, Bool.not_eq_true', not_or, not_and, Bool.not_eq_false] at h2
        simp only [Bool.or_eq_true, Bool.and_eq_true, Bool.not_eq_true', not_or, not_and, decide_eq_true_eq] at h3
        refine ⟨by omega, by omega, fun h4 => zeroT_eq (h2.1 h4), fun h4 => zeroT_eq (h2.2 h4), fun h4 => by have := h3.1 h4; omega, fun h4 => by have := h3.2 h4; omega, fun h4 => ?_, fun h4 => ?_⟩
        · rw [h4] at h; exact varK_in h
        · rw [h4] at h; exact varK_no h
end E
end Go.Proofs.Ytmdjgejahnmfmaf

/- Plain mathematics of instructions, second part: the stack is enough; jumps go where none is on it. -/
namespace Go.Proofs.Ytmdjgejahnmfmaf
set_option maxRecDepth 20000
set_option maxHeartbeats 4000000
namespace E

section
variable {c A B : Int}
theorem ok_else (c A : Int) : OkI c 1 (13, A, 0, 0) := ⟨by show popI 13 ≤ 1; decide, by show 1 - popI 13 + pushI 13 ≤ 24; decide, fun _ => by show 1 - popI 13 + pushI 13 = 0; decide, by show (13 : Int) ≠ 16; decide, fun hc => absurd hc (by show ¬ ((13 : Int) = 2 ∨ (13 : Int) = 9 ∨ (13 : Int) = 12); decide), fun hc => absurd hc (by show ¬ ((13 : Int) = 3 ∨ (13 : Int) = 10); decide)⟩
theorem ok_jump (c A : Int) : OkI c 0 (14, A, 0, 0) := ⟨by show popI 14 ≤ 0; decide, by show 0 - popI 14 + pushI 14 ≤ 24; decide, fun _ => by show 0 - popI 14 + pushI 14 = 0; decide, by show (14 : Int) ≠ 16; decide, fun hc => absurd hc (by show ¬ ((14 : Int) = 2 ∨ (14 : Int) = 9 ∨ (14 : Int) = 12); decide), fun hc => absurd hc (by show ¬ ((14 : Int) = 3 ∨ (14 : Int) = 10); decide)⟩
theorem ok_set (h0 : 0 ≤ A) (h1 : A < c) : OkI c 1 (9, A, 0, 0) := ⟨by show popI 9 ≤ 1; decide, by show 1 - popI 9 + pushI 9 ≤ 24; decide, fun hc => absurd hc (by show ¬ ((9 : Int) = 13 ∨ (9 : Int) = 14); decide), by show (9 : Int) ≠ 16; decide, fun _ => ⟨h0, h1⟩, fun hc => absurd hc (by show ¬ ((9 : Int) = 3 ∨ (9 : Int) = 10); decide)⟩
theorem ok_read (h0 : 0 ≤ A) (h1 : A < c) : OkI c 0 (12, A, 0, 0) := ⟨by show popI 12 ≤ 0; decide, by show 0 - popI 12 + pushI 12 ≤ 24; decide, fun hc => absurd hc (by show ¬ ((12 : Int) = 13 ∨ (12 : Int) = 14); decide), by show (12 : Int) ≠ 16; decide, fun _ => ⟨h0, h1⟩, fun hc => absurd hc (by show ¬ ((12 : Int) = 3 ∨ (12 : Int) = 10); decide)⟩
theorem ok_put (h0 : 0 ≤ A) (h1 : 1 ≤ B) (h2 : A + B ≤ c) : OkI c 2 (10, A, B, 0) := ⟨by show popI 10 ≤ 2; decide, by show 2 - popI 10 + pushI 10 ≤ 24; decide, fun hc => absurd hc (by show ¬ ((10 : Int) = 13 ∨ (10 : Int) = 14); decide), by show (10 : Int) ≠ 16; decide, fun hc => absurd hc (by show ¬ ((10 : Int) = 2 ∨ (10 : Int) = 9 ∨ (10 : Int) = 12); decide), fun _ => ⟨h0, h1, h2⟩⟩
end
section
variable {vs : List VarT}
theorem parts_le {op : Int} {len : Nat} (h : partsOf op = (len : Int)) : len ≤ 2 ∧ (op = 1 ∨ op = 2 → len = 0) ∧ (op = 3 → len = 1) ∧ (4 ≤ op → len = 2) := by
  unfold partsOf at h
  split at h
  · omega
  · split at h
    · omega
    · split at h <;> omega
mutual
theorem sim_E (hB : Big vs) : ∀ (t : ET) {d k k' : Nat}, chkE vs.length t d k = .ok k' → ∀ (n : Nat), n + (13 - d) ≤ 24 → Sim (sumV vs) n (insE vs t) (n + 1)
  | .mk op v m l, d, k, k', h, n, hn => by
    obtain ⟨hd, h1, k1, h2⟩ := chkE_inv h
    obtain ⟨a1, a2, a3, _, a5, _⟩ := ownE_inv h1
    obtain ⟨p1, p2, p3, p4⟩ := parts_le a3
    have ih := sim_Es hB l h2 n (by omega)
    simp only [insE]
    refine ih.app ?_
    have hop : op = 1 ∨ op = 2 ∨ op = 3 ∨ (4 ≤ op ∧ op ≤ 8) := by omega
    have hpop : popI op = l.length := by
      unfold popI
      split
      · rename_i hc
        have : op = 3 := by omega
        rw [p3 this]
      · split
        · rename_i hc
          rw [p4 (by omega)]
        · rw [p2 (by omega)]
    have hpush : pushI op = 1 := by
      unfold pushI
      rw [if_pos (by omega)]
    refine Sim.one' ⟨?_, ?_, fun hj => ?_, ?_, fun hc => ?_, fun hc => ?_⟩ ?_
    · show popI op ≤ _; omega
    · show n + l.length - popI op + pushI op ≤ 24
      have : 1 ≤ 13 - d := by omega
      omega
    · exact absurd hj (by simp only; omega)
    · show op ≠ 16; omega
    · have h2 : op = 2 := by simp only at hc; omega
      obtain ⟨c1, c2, c3⟩ := cell_in hB (a5 (.inl h2)).2
      simp only
      rw [if_pos (.inl h2)]
      omega
    · have h3 : op = 3 := by simp only at hc; omega
      obtain ⟨c1, c2, c3⟩ := cell_in hB (a5 (.inr h3)).2
      simp only
      rw [if_pos (.inr h3), if_pos h3]
      omega
    · show n + l.length - popI op + pushI op = n + 1; omega
theorem sim_Es (hB : Big vs) : ∀ (l : List ET) {d k k' : Nat}, chkEs vs.length l d k = .ok k' → ∀ (n : Nat), n + l.length + (13 - d) ≤ 25 → Sim (sumV vs) n (insEs vs l) (n + l.length)
  | [], _, _, _, _, n, _ => by simp only [insEs, List.length_nil, Nat.add_zero]; exact .nil n
  | t :: r, d, k, k', h, n, hn => by
    obtain ⟨⟨k1, h1⟩, k2, h2⟩ := chkEs_inv h
    simp only [List.length_cons] at hn
    have i1 := sim_E hB t h1 n (by omega)
    have i2 := sim_Es hB r h2 (n + 1) (by omega)
    simp only [insEs, List.length_cons]
    have e : n + (r.length + 1) = n + 1 + r.length := by omega
    rw [e]
    exact i1.app i2
end
theorem sim_eI (hB : Big vs) {op : Int} {e : ET} {d k k' : Nat} (hd : needE op = true → chkE vs.length e (d + 1) k = .ok k') : Sim (sumV vs) 0 (eI vs op e) (if needE op then 1 else 0) := by
  unfold eI
  cases hn : needE op with
  | false => exact .nil 0
  | true => exact sim_E hB e (hd hn) 0 (by omega)

mutual
theorem sim_S (hB : Big vs) : ∀ (t : ST) {d k k' : Nat}, chkS vs.length t d k = .ok k' → ∀ (i0 : Nat), Sim (sumV vs) 0 (insS vs t i0) 0
  | .mk op v e f b o, d, k, k', h, i0 => by
    obtain ⟨hd, h1, h2, h3, ⟨k1, k2, h4⟩, k3, k4, h5⟩ := chkS_inv h
    obtain ⟨a1, a2, _, _, _, _, a7, _⟩ := ownS_inv h1
    have se : Sim (sumV vs) 0 (eI vs op e) (if needE op then 1 else 0) := by
      unfold eI
      cases hn : needE op with
      | false => exact .nil 0
      | true =>
        obtain ⟨_, _, hc⟩ := h2 hn
        exact sim_E hB e hc 0 (by omega)
    have sb := fun i => sim_Ss hB b h4 i
    have so := fun i => sim_Ss hB o h5 i
    simp only [insS]
    split
    · rename_i h6
      subst h6
      have se' : Sim (sumV vs) 0 (eI vs 5 e) 1 := se
      unfold whileI
      exact se'.app (.cons (ok_else _ _) ((sb _).app (Sim.one' (ok_jump _ _) rfl)))
    · split
      · rename_i h6
        subst h6
        have se' : Sim (sumV vs) 0 (eI vs 6 e) 1 := se
        unfold ifI
        exact se'.app (.cons (ok_else _ _) ((sb _).app (.cons (ok_jump _ _) (so _))))
      · have hop : op = 1 ∨ op = 2 ∨ op = 3 ∨ op = 4 ∨ op = 7 := by omega
        rcases hop with rfl | rfl | rfl | rfl | rfl
        · obtain ⟨c1, c2, c3⟩ := cell_in hB (a7 rfl).2
          have se' : Sim (sumV vs) 0 (eI vs 1 e) 1 := se
          refine se'.app (Sim.one' (ok_set c1 (by omega)) rfl)
        · obtain ⟨c1, c2, c3⟩ := cell_in hB (a7 rfl).2
          have se' : Sim (sumV vs) 0 (eI vs 2 e) 1 := se
          obtain ⟨_, _, hc⟩ := h3 rfl
          have sf : Sim (sumV vs) 1 (fI vs 2 f) 2 := sim_E hB f hc 1 (by omega)
          refine se'.app (sf.app (Sim.one' (ok_put c1 c2 c3) rfl))
        · have se' : Sim (sumV vs) 0 (eI vs 3 e) 1 := se
          refine se'.app (Sim.one' (x := (11, 0, 0, 0)) ⟨by decide, by decide, fun hc => absurd hc (by decide), by decide, fun hc => absurd hc (by decide), fun hc => absurd hc (by decide)⟩ (by decide))
        · obtain ⟨c1, c2, c3⟩ := cell_in hB (a7 rfl).2
          have se' : Sim (sumV vs) 0 (eI vs 4 e) 0 := se
          refine se'.app (Sim.one' (ok_read c1 (by omega)) rfl)
        · have se' : Sim (sumV vs) 0 (eI vs 7 e) 0 := se
          refine se'.app (Sim.one' (x := (15, 0, 0, 0)) ⟨by decide, by decide, fun hc => absurd hc (by decide), by decide, fun hc => absurd hc (by decide), fun hc => absurd hc (by decide)⟩ (by decide))
theorem sim_Ss (hB : Big vs) : ∀ (l : List ST) {d k k' : Nat}, chkSs vs.length l d k = .ok k' → ∀ (i0 : Nat), Sim (sumV vs) 0 (insSs vs l i0) 0
  | [], _, _, _, _, _ => .nil 0
  | t :: r, d, k, k', h, i0 => by
    obtain ⟨⟨k1, h1⟩, k2, h2⟩ := chkSs_inv h
    exact (sim_S hB t h1 i0).app (sim_Ss hB r h2 _)
end

/-- A jump of these goes to a place of these, or behind them, where none is on the stack. -/
def Jmp (c : Int) (i0 : Nat) (l : List Is) (x : Is) : Prop := ∃ k : Nat, x.2.1 = ((i0 + k : Nat) : Int) ∧ k ≤ l.length ∧ Sim c 0 (l.take k) 0
def Jmps (c : Int) (i0 : Nat) (l : List Is) : Prop := ∀ x ∈ l, x.1 = 13 ∨ x.1 = 14 → Jmp c i0 l x
theorem Jmp.right {c : Int} {i0 : Nat} {a b : List Is} {x : Is} (h : Jmp c i0 a x) : Jmp c i0 (a ++ b) x := by
  obtain ⟨k, h1, h2, h3⟩ := h
  exact ⟨k, h1, by simp; omega, by rw [List.take_append_of_le_length h2]; exact h3⟩
theorem Jmp.left {c : Int} {i0 : Nat} {a b : List Is} {x : Is} (ha : Sim c 0 a 0) (h : Jmp c (i0 + a.length) b x) : Jmp c i0 (a ++ b) x := by
  obtain ⟨k, h1, h2, h3⟩ := h
  refine ⟨a.length + k, by rw [h1]; congr 1; omega, by simp; omega, ?_⟩
  rw [List.take_append, List.take_of_length_le (by omega)]
  have e : a.length + k - a.length = k := by omega
  rw [e]
  exact ha.app h3
theorem Jmps.app {c : Int} {i0 : Nat} {a b : List Is} (ha : Sim c 0 a 0) (h : Jmps c i0 a) (h' : Jmps c (i0 + a.length) b) : Jmps c i0 (a ++ b) := fun x hx hj => by
  rcases List.mem_append.1 hx with hx | hx
  · exact (h x hx hj).right
  · exact (h' x hx hj).left ha
mutual
theorem noJ_E : ∀ (t : ET) {d k k' : Nat}, chkE vs.length t d k = .ok k' → ∀ x ∈ insE vs t, x.1 ≤ 8
  | .mk op v m l, d, k, k', h, x, hx => by
    obtain ⟨hd, h1, k1, h2⟩ := chkE_inv h
    obtain ⟨a1, a2, _⟩ := ownE_inv h1
    simp only [insE, List.mem_append, List.mem_singleton] at hx
    rcases hx with hx | rfl
    · exact noJ_Es l h2 x hx
    · exact a2
theorem noJ_Es : ∀ (l : List ET) {d k k' : Nat}, chkEs vs.length l d k = .ok k' → ∀ x ∈ insEs vs l, x.1 ≤ 8
  | [], _, _, _, _, x, hx => by simp [insEs] at hx
  | t :: r, d, k, k', h, x, hx => by
    obtain ⟨⟨k1, h1⟩, k2, h2⟩ := chkEs_inv h
    simp only [insEs, List.mem_append] at hx
    rcases hx with hx | hx
    · exact noJ_E t h1 x hx
    · exact noJ_Es r h2 x hx
end
mutual
theorem jmp_S (hB : Big vs) : ∀ (t : ST) {d k k' : Nat}, chkS vs.length t d k = .ok k' → ∀ (i0 : Nat), Jmps (sumV vs) i0 (insS vs t i0)
  | .mk op v e f b o, d, k, k', h, i0 => by
    have hsim := sim_S hB (.mk op v e f b o) h i0
    obtain ⟨hd, h1, h2, h3, ⟨k1, k2, h4⟩, k3, k4, h5⟩ := chkS_inv h
    obtain ⟨a1, a2, _, _, _, _, a7, _⟩ := ownS_inv h1
    have ne : ∀ x ∈ eI vs op e, x.1 ≤ 8 := by
      unfold eI
      split
      · rename_i hn
        obtain ⟨_, _, hc⟩ := h2 hn
        exact noJ_E e hc
      · simp
    have nf : ∀ x ∈ fI vs op f, x.1 ≤ 8 := by
      unfold fI
      split
      · rename_i hn
        obtain ⟨_, _, hc⟩ := h3 hn
        exact noJ_E f hc
      · simp
    have sb := fun i => sim_Ss hB b h4 i
    have so := fun i => sim_Ss hB o h5 i
    have jb := fun i => jmp_Ss hB b h4 i
    have jo := fun i => jmp_Ss hB o h5 i
    have whole : Jmp (sumV vs) i0 (insS vs (.mk op v e f b o) i0) (14, ((i0 + (insS vs (.mk op v e f b o) i0).length : Nat) : Int), 0, 0) := ⟨_, rfl, Nat.le_refl _, by rw [List.take_length]; exact hsim⟩
    have begin0 : ∀ l, Jmp (sumV vs) i0 l (14, ((i0 : Nat) : Int), 0, 0) := fun l => ⟨0, by simp, by omega, by simp only [List.take_zero]; exact .nil 0⟩
    simp only [insS] at hsim whole ⊢
    split
    · rename_i h6
      subst h6
      rw [if_pos rfl] at hsim whole
      obtain ⟨E, hE⟩ : ∃ E, E = eI vs 5 e := ⟨_, rfl⟩
      rw [← hE] at hsim whole ne ⊢
      obtain ⟨X, hX⟩ : ∃ X, X = insSs vs b (i0 + E.length + 1) := ⟨_, rfl⟩
      have sX := sb (i0 + E.length + 1)
      have jX := jb (i0 + E.length + 1)
      rw [← hX] at hsim whole sX jX ⊢
      have head0 : Sim (sumV vs) 0 (E ++ [(13, ((i0 + E.length + 1 + X.length + 1 : Nat) : Int), 0, 0)]) 0 := by
        have se' : Sim (sumV vs) 0 E 1 := by
          rw [hE]
          unfold eI
          obtain ⟨_, _, hc⟩ := h2 rfl
          exact sim_E hB e hc 0 (by omega)
        exact se'.app (Sim.one' (ok_else _ _) rfl)
      have ew : whileI i0 E X = (E ++ [(13, ((i0 + E.length + 1 + X.length + 1 : Nat) : Int), 0, 0)]) ++ (X ++ [(14, ((i0 : Nat) : Int), 0, 0)]) := by simp [whileI]
      have lw : (whileI i0 E X).length = E.length + 1 + X.length + 1 := by simp [whileI]; omega
      intro x hx hj
      have hx' := hx
      simp only [whileI, List.mem_append, List.mem_cons, List.not_mem_nil, or_false] at hx'
      rcases hx' with hx' | rfl | hx' | rfl
      · have := ne x hx'; omega
      · obtain ⟨q, q1, q2, q3⟩ := whole
        exact ⟨(whileI i0 E X).length, by rw [lw]; simp only; congr 1; omega, Nat.le_refl _, by rw [List.take_length]; exact hsim⟩
      · have := (jX x hx' hj).right (b := [(14, ((i0 : Nat) : Int), 0, 0)])
        rw [ew]
        refine Jmp.left head0 ?_
        have el : i0 + (E ++ [(13, ((i0 + E.length + 1 + X.length + 1 : Nat) : Int), 0, 0)] : List Is).length = i0 + E.length + 1 := by simp; omega
        rw [el]
        exact this
      · exact begin0 _
    · split
      · rename_i h5' h6
        subst h6
        rw [if_neg (by decide), if_pos rfl] at hsim whole
        obtain ⟨E, hE⟩ : ∃ E, E = eI vs 6 e := ⟨_, rfl⟩
        rw [← hE] at hsim whole ne ⊢
        obtain ⟨X, hX⟩ : ∃ X, X = insSs vs b (i0 + E.length + 1) := ⟨_, rfl⟩
        have sX := sb (i0 + E.length + 1)
        have jX := jb (i0 + E.length + 1)
        rw [← hX] at hsim whole sX jX ⊢
        obtain ⟨Y, hY⟩ : ∃ Y, Y = insSs vs o (i0 + E.length + 1 + X.length + 1) := ⟨_, rfl⟩
        have sY := so (i0 + E.length + 1 + X.length + 1)
        have jY := jo (i0 + E.length + 1 + X.length + 1)
        rw [← hY] at hsim whole sY jY ⊢
        obtain ⟨H, hH⟩ : ∃ H : List Is, H = E ++ [(13, ((i0 + E.length + 1 + X.length + 1 : Nat) : Int), 0, 0)] := ⟨_, rfl⟩
        obtain ⟨J, hJ⟩ : ∃ J : Is, J = (14, ((i0 + E.length + 1 + X.length + 1 + Y.length : Nat) : Int), 0, 0) := ⟨_, rfl⟩
        have head0 : Sim (sumV vs) 0 H 0 := by
          have se' : Sim (sumV vs) 0 E 1 := by
            rw [hE]
            unfold eI
            obtain ⟨_, _, hc⟩ := h2 rfl
            exact sim_E hB e hc 0 (by omega)
          rw [hH]
          exact se'.app (Sim.one' (ok_else _ _) rfl)
        have hHl : H.length = E.length + 1 := by rw [hH]; simp
        have sJ : Sim (sumV vs) 0 [J] 0 := by
          rw [hJ]
          exact Sim.one' (ok_jump _ _) rfl
        have ew : ifI i0 E X Y = (H ++ (X ++ [J])) ++ Y := by rw [hH, hJ]; simp [ifI]
        have lw : (ifI i0 E X Y).length = E.length + 1 + X.length + 1 + Y.length := by rw [ew]; simp [hHl]; omega
        have sHX : Sim (sumV vs) 0 (H ++ (X ++ [J])) 0 := head0.app (sX.app sJ)
        have lHX : (H ++ (X ++ [J])).length = E.length + 1 + X.length + 1 := by simp [hHl]; omega
        intro x hx hj
        have hx' := hx
        simp only [ifI, List.mem_append, List.mem_cons] at hx'
        rcases hx' with hx' | rfl | hx' | rfl | hx'
        · have := ne x hx'; omega
        · refine ⟨E.length + 1 + X.length + 1, by simp only; congr 1; omega, by omega, ?_⟩
          rw [ew, List.take_append_of_le_length (by omega), List.take_of_length_le (by omega)]
          exact sHX
        · have h7 := (jX x hx' hj).right (b := [J])
          rw [ew]
          refine Jmp.right (Jmp.left head0 ?_)
          rw [hHl]
          exact h7
        · exact ⟨(ifI i0 E X Y).length, by rw [lw]; simp only; congr 1; omega, Nat.le_refl _, by rw [List.take_length]; exact hsim⟩
        · have h7 := jY x hx' hj
          rw [ew]
          refine Jmp.left sHX ?_
          rw [lHX]
          have e7 : i0 + (E.length + 1 + X.length + 1) = i0 + E.length + 1 + X.length + 1 := by omega
          rw [e7]
          exact h7
      · intro x hx hj
        simp only [List.mem_append, List.mem_singleton] at hx
        rcases hx with hx | hx | rfl
        · have := ne x hx; omega
        · have := nf x hx; omega
        · exfalso
          unfold lastI at hj
          repeat' split at hj
          all_goals simp at hj
theorem jmp_Ss (hB : Big vs) : ∀ (l : List ST) {d k k' : Nat}, chkSs vs.length l d k = .ok k' → ∀ (i0 : Nat), Jmps (sumV vs) i0 (insSs vs l i0)
  | [], _, _, _, _, _ => fun x hx => by simp [insSs] at hx
  | t :: r, d, k, k', h, i0 => by
    obtain ⟨⟨k1, h1⟩, k2, h2⟩ := chkSs_inv h
    exact Jmps.app (sim_S hB t h1 i0) (jmp_S hB t h1 i0) (jmp_Ss hB r h2 _)
end
end
end E
end Go.Proofs.Ytmdjgejahnmfmaf

/- Plain mathematics of the document's machine: what one instruction does; that it always can. -/
namespace Go.Proofs.Ytmdjgejahnmfmaf
set_option maxRecDepth 20000
set_option maxHeartbeats 4000000
namespace E

/-- All that a machine knows. -/
structure Md where
  next : Nat
  stack : List Int
  read : Nat
  out : Nat
  state : Nat
  cells : List Int
/-- What was printed; whether two things were printed at one place. -/
abbrev Pr := List Int × Bool
def putP (p : Pr) (k : Nat) (n : Int) : Pr := if k = p.1.length then (p.1 ++ [n], p.2) else if p.1[k]? = some n then p else (p.1, true)
def topS (s : List Int) : Int := s.getLastD 0
def bitI (b : Bool) : Int := if b then 1 else 0
def ariI (op z y : Int) : Int := if op = 4 then IntKind.i64.wrap (z + y) else if op = 5 then IntKind.i64.wrap (z - y) else if op = 6 then IntKind.i64.wrap (z * y) else if op = 7 then bitI (decide (z < y)) else bitI (z == y)
def cellAt (l : List Int) (k : Int) : Int := l.getD k.toNat 0
/-- One instruction. -/
def exI (inp : List Int) (x : Is) (m : Md) (p : Pr) : Md × Pr :=
  if x.1 = 1 then ({ m with next := m.next + 1, stack := m.stack ++ [x.2.2.2] }, p)
  else if x.1 = 2 then ({ m with next := m.next + 1, stack := m.stack ++ [cellAt m.cells x.2.1] }, p)
  else if x.1 = 3 then
    (if 0 ≤ topS m.stack ∧ topS m.stack < x.2.2.1 then ({ m with next := m.next + 1, stack := m.stack.dropLast ++ [cellAt m.cells (x.2.1 + topS m.stack)] }, p)
    else ({ m with next := m.next + 1, stack := m.stack.dropLast, state := 13 }, p))
  else if 4 ≤ x.1 ∧ x.1 ≤ 8 then ({ m with next := m.next + 1, stack := m.stack.dropLast.dropLast ++ [ariI x.1 (topS m.stack.dropLast) (topS m.stack)] }, p)
  else if x.1 = 9 then ({ m with next := m.next + 1, stack := m.stack.dropLast, cells := m.cells.set x.2.1.toNat (topS m.stack) }, p)
  else if x.1 = 10 then
    (if 0 ≤ topS m.stack.dropLast ∧ topS m.stack.dropLast < x.2.2.1 then ({ m with next := m.next + 1, stack := m.stack.dropLast.dropLast, cells := m.cells.set (x.2.1 + topS m.stack.dropLast).toNat (topS m.stack) }, p)
    else ({ m with next := m.next + 1, stack := m.stack.dropLast.dropLast, state := 13 }, p))
  else if x.1 = 11 then ({ m with next := m.next + 1, stack := m.stack.dropLast, out := m.out + 1 }, putP p m.out (topS m.stack))
  else if x.1 = 12 then
    (if m.read < inp.length then ({ m with next := m.next + 1, cells := m.cells.set x.2.1.toNat (inp.getD m.read 0), read := m.read + 1 }, p)
    else ({ m with next := m.next + 1, state := 14 }, p))
  else if x.1 = 13 then ({ m with next := if topS m.stack = 0 then x.2.1.toNat else m.next + 1, stack := m.stack.dropLast }, p)
  else if x.1 = 14 then ({ m with next := x.2.1.toNat }, p)
  else if x.1 = 16 then ({ m with next := m.next + 1, state := 1 }, p)
  else ({ m with next := m.next + 1 }, p)
/-- One instruction of W; nothing, if it goes on no longer. -/
def stB (W : List Is) (inp : List Int) (m : Md) (p : Pr) : Md × Pr := if m.state = 0 then exI inp (W.getD m.next (0, 0, 0, 0)) m p else (m, p)
/-- Does a commit come? -/
def comB (W : List Is) (m : Md) : Bool := decide (m.state = 0) && decide ((W.getD m.next (0, 0, 0, 0)).1 = 15)
def mind0 (c : Nat) : Md := ⟨0, [], 0, 0, 0, List.replicate c 0⟩

/-- It is in order: all that its instructions take is there. -/
structure Fit (c : Int) (Q : List Is) (m : Md) (p : Pr) : Prop where
  cells : (m.cells.length : Int) = c
  out : m.out ≤ p.1.length
  next : m.state = 0 → m.next ≤ Q.length
  sim : m.state = 0 → Sim c 0 (Q.take m.next) m.stack.length
theorem putP_len (p : Pr) (k : Nat) (n : Int) : p.1.length ≤ (putP p k n).1.length ∧ (k ≤ p.1.length → k + 1 ≤ (putP p k n).1.length) := by
  unfold putP
  split
  · simp only [List.length_append, List.length_cons, List.length_nil]; omega
  · split
    · exact ⟨Nat.le_refl _, fun h => by omega⟩
    · exact ⟨Nat.le_refl _, fun h => by show k + 1 ≤ p.1.length; omega⟩
theorem fit0 {c : Nat} {Q : List Is} (p : Pr) : Fit c Q (mind0 c) p := ⟨by simp [mind0], by simp [mind0], fun _ => by simp [mind0], fun _ => by simp only [mind0, List.take_zero]; exact .nil 0⟩

/-- What stands at a place where so many are on the stack: an instruction that may stand there, or IHalt. -/
def FitX (c : Int) (Q : List Is) (n k : Nat) (x : Is) : Prop := (n < Q.length ∧ Q[n]? = some x ∧ OkI c k x ∧ Sim c 0 (Q.take (n + 1)) (k - popI x.1 + pushI x.1)) ∨ (n = Q.length ∧ x = haltI ∧ k = 0)
theorem at_halt {c : Int} {Q : List Is} (hQ : Sim c 0 Q 0) {n k : Nat} (hn : n ≤ Q.length) (hs : Sim c 0 (Q.take n) k) : ∃ x, (Q ++ [haltI])[n]? = some x ∧ FitX c Q n k x := by
  by_cases hi : n < Q.length
  · refine ⟨Q[n], by rw [List.getElem?_append_left hi, List.getElem?_eq_getElem hi], ?_⟩
    obtain ⟨k', h1, h2⟩ := hQ.at n (by omega)
    have := h1.det hs
    subst this
    obtain ⟨h3, h4⟩ := h2 _ (List.getElem?_eq_getElem hi)
    exact .inl ⟨hi, List.getElem?_eq_getElem hi, h3, h4⟩
  · have : n = Q.length := by omega
    subst this
    rw [List.take_length] at hs
    exact ⟨haltI, by rw [List.getElem?_append_right (Nat.le_refl _), Nat.sub_self]; rfl, .inr ⟨rfl, rfl, hs.det hQ⟩⟩
theorem popI_num (op : Int) : (op = 1 ∨ op = 2 → popI op = 0 ∧ pushI op = 1) ∧ (op = 3 → popI op = 1 ∧ pushI op = 1) ∧ (4 ≤ op ∧ op ≤ 8 → popI op = 2 ∧ pushI op = 1) ∧ (op = 9 ∨ op = 11 ∨ op = 13 → popI op = 1 ∧ pushI op = 0) ∧ (op = 10 → popI op = 2 ∧ pushI op = 0) ∧
    (op < 1 ∨ op = 12 ∨ 13 < op → popI op = 0 ∧ pushI op = 0) := by
  unfold popI pushI
  refine ⟨fun h => ?_, fun h => ?_, fun h => ?_, fun h => ?_, fun h => ?_, fun h => ?_⟩
  · rw [if_neg (by omega), if_neg (by omega), if_pos (by omega)]; exact ⟨rfl, rfl⟩
  · rw [if_pos (by omega), if_pos (by omega)]; exact ⟨rfl, rfl⟩
  · rw [if_neg (by omega), if_pos (by omega), if_pos (by omega)]; exact ⟨rfl, rfl⟩
  · rw [if_pos (by omega), if_neg (by omega)]; exact ⟨rfl, rfl⟩
  · rw [if_neg (by omega), if_pos (by omega), if_neg (by omega)]; exact ⟨rfl, rfl⟩
  · rw [if_neg (by omega), if_neg (by omega), if_neg (by omega)]; exact ⟨rfl, rfl⟩

theorem Fit.step {c : Int} {Q : List Is} (hQ : Sim c 0 Q 0) (hJ : Jmps c 0 Q) {inp : List Int} {m : Md} {p : Pr} (h : Fit c Q m p) : Fit c Q (stB (Q ++ [haltI]) inp m p).1 (stB (Q ++ [haltI]) inp m p).2 := by
  unfold stB
  by_cases hs : ¬ m.state = 0
  · rw [if_neg hs]; exact h
  replace hs : m.state = 0 := by omega
  rw [if_pos hs]
  have hn := h.next hs
  obtain ⟨x, hx, hf⟩ := at_halt hQ hn (h.sim hs)
  have hg : (Q ++ [haltI]).getD m.next (0, 0, 0, 0) = x := by rw [List.getD_eq_getElem?_getD, hx]; rfl
  rw [hg]
  have hc := h.cells
  have ho := h.out
  rcases hf with ⟨hlt, hxQ, hok, hsim⟩ | ⟨hlt, rfl, hk⟩
  · obtain ⟨op, A, B, N⟩ := x
    obtain ⟨f1, f2, f3, f4, f5, f6⟩ := hok
    simp only at f1 f2 f3 f4 f5 f6 hsim
    obtain ⟨n1, n2, n3, n4, n5, n6⟩ := popI_num op
    have one : ∀ (s : List Int) (cs : List Int) (rd : Nat) (ou : Nat) (p' : Pr), cs.length = m.cells.length → ou ≤ p'.1.length → s.length = m.stack.length - popI op + pushI op → Fit c Q { m with next := m.next + 1, stack := s, cells := cs, read := rd, out := ou } p' := fun s cs rd ou p' h1 h2 h3 =>
      ⟨by show (cs.length : Int) = c; rw [h1]; exact hc, h2, fun _ => by show m.next + 1 ≤ Q.length; omega, fun _ => by show Sim c 0 (Q.take (m.next + 1)) s.length; rw [h3]; exact hsim⟩
    have off : ∀ (s : List Int) (st : Nat), st ≠ 0 → Fit c Q { m with next := m.next + 1, stack := s, state := st } p := fun s st h1 => ⟨hc, ho, fun h2 => absurd h2 h1, fun h2 => absurd h2 h1⟩
    unfold exI
    simp only
    by_cases e1 : op = 1
    · rw [if_pos e1]
      exact one _ _ _ _ _ rfl ho (by simp; omega)
    rw [if_neg e1]
    by_cases e2 : op = 2
    · rw [if_pos e2]
      exact one _ _ _ _ _ rfl ho (by simp; omega)
    rw [if_neg e2]
    by_cases e3 : op = 3
    · rw [if_pos e3]
      split
      · exact one _ _ _ _ _ rfl ho (by simp; omega)
      · exact off _ _ (by decide)
    rw [if_neg e3]
    by_cases e4 : 4 ≤ op ∧ op ≤ 8
    · rw [if_pos e4]
      exact one _ _ _ _ _ rfl ho (by simp; omega)
    rw [if_neg e4]
    by_cases e9 : op = 9
    · rw [if_pos e9]
      exact one _ _ _ _ _ (by simp) ho (by simp; omega)
    rw [if_neg e9]
    by_cases e10 : op = 10
    · rw [if_pos e10]
      split
      · exact one _ _ _ _ _ (by simp) ho (by simp; omega)
      · exact off _ _ (by decide)
    rw [if_neg e10]
    by_cases e11 : op = 11
    · rw [if_pos e11]
      exact one _ _ _ _ _ rfl ((putP_len p m.out _).2 ho) (by simp; omega)
    rw [if_neg e11]
    by_cases e12 : op = 12
    · rw [if_pos e12]
      split
      · exact one _ _ _ _ _ (by simp) ho (by omega)
      · exact off _ _ (by decide)
    rw [if_neg e12]
    by_cases e13 : op = 13
    · rw [if_pos e13]
      obtain ⟨k, hk1, h2, h3⟩ := hJ _ (List.mem_of_getElem? hxQ) (.inl e13)
      simp only [Nat.zero_add] at hk1
      subst hk1
      have hl0 : m.stack.length - 1 = 0 := by have := f3 (.inl e13); have := n4 (by omega); omega
      by_cases ht : topS m.stack = 0
      · rw [if_pos ht]
        exact ⟨hc, ho, fun _ => by simpa using h2, fun _ => by simp only [List.length_dropLast, hl0, Int.toNat_natCast]; exact h3⟩
      · rw [if_neg ht]
        exact one _ _ _ _ _ rfl ho (by simp; omega)
    rw [if_neg e13]
    by_cases e14 : op = 14
    · rw [if_pos e14]
      obtain ⟨k, hk1, h2, h3⟩ := hJ _ (List.mem_of_getElem? hxQ) (.inr e14)
      simp only [Nat.zero_add] at hk1
      subst hk1
      have hl0 : m.stack.length = 0 := by have := f3 (.inr e14); have := n6 (by omega); omega
      exact ⟨hc, ho, fun _ => by simpa using h2, fun _ => by simp only [hl0, Int.toNat_natCast]; exact h3⟩
    rw [if_neg e14, if_neg f4]
    exact one _ _ _ _ _ rfl ho (by omega)
  · have e : exI inp haltI m p = ({ m with next := m.next + 1, state := 1 }, p) := rfl
    rw [e]
    exact ⟨hc, ho, fun h2 => absurd h2 (by show ¬ (1 = 0); decide), fun h2 => absurd h2 (by show ¬ (1 = 0); decide)⟩
end E
end Go.Proofs.Ytmdjgejahnmfmaf

/- More laws of single operations: cutting a slice or an array, copy, a field of a value. -/
namespace Go.Proofs.Ytmdjgejahnmfmaf
set_option maxRecDepth 20000
set_option maxHeartbeats 4000000
namespace E

section
variable {P : Program} {T : Tbl} {n : Nat} {σ : Env} {o : Oper} {w : World} {v : Value}

/-- s[:h]. -/
theorem val_sliceTo {t : TypeId} {x hi : Operand} {a : Option Addr} {len cap sz : Nat} {k1 : IntKind} {i1 : Int} (h : Nat) (hT : T.check P = true) (ho : o.op = .slice t x none (some hi) none) (hx : ev σ x = some (.slice a len cap))
    (h1 : ev σ hi = some (.int k1 i1)) (ht : find T.sl t = some sz) (e1 : i1 = (h : Int)) (hm : h ≤ cap) (w : World) : Val P n σ o w (.slice a h cap) := by
  intro ac ha
  subst e1
  have hs := Tbl.sl_ok hT ht
  unfold slOk at hs
  split at hs
  · rename_i e hu
    simp [execOp, ho, ha.eval hx, ha.eval h1, Instr.sliceAt, Instr.slice, Instr.sliceBounds, Instr.sliceBound, asIntOf, run_underlying hu, sizeOk_run hs, hm]
    cases a <;> simp [Addr.add]
  · cases hs

/-- x[l:], of an array. -/
theorem val_sliceArrFrom {t : TypeId} {x lo : Operand} {b q len sz : Nat} {k1 : IntKind} {i1 : Int} (l : Nat) (hT : T.check P = true) (ho : o.op = .slice t x (some lo) none none) (hx : ev σ x = some (.pointer (some ⟨b, q, none⟩)))
    (h1 : ev σ lo = some (.int k1 i1)) (ht : find T.ar t = some (len, sz)) (e1 : i1 = (l : Int)) (hm : l < len) (w : World) : Val P n σ o w (.slice (some ⟨b, q + l * sz, none⟩) (len - l) (len - l)) := by
  intro a ha
  subst e1
  have hs := Tbl.ar_ok hT ht
  unfold arOk at hs
  split at hs
  · rename_i l' e hu
    simp only [Bool.and_eq_true, beq_iff_eq] at hs
    obtain ⟨rfl, hs⟩ := hs
    have hle : l ≤ l' := Nat.le_of_lt hm
    have hne : ¬ l' = l := by omega
    simp [execOp, ho, ha.eval hx, ha.eval h1, Instr.sliceAt, Instr.sliceBounds, Instr.sliceBound, asIntOf, Instr.sureAddr, run_underlying hu, sizeOk_run hs, hle, hne, Addr.add_mid]
  · cases hs

def copyOk (P : Program) (t : Nat) : Bool :=
  match P.underlying t with
  | some (.slice e) => sizeOk P e 1
  | _ => false

theorem opTo_copy {t t' : TypeId} {x y : Operand} {b q dl dc b' q' sl sc : Nat} {L : List Value} {e : TypeId} {K : Value → World → Prop} (cs : List Value)
    (ho : o.op = .call { callee := .builtin .copy, args := #[x, y], argTypes := #[t, t'] }) (hx : ev σ x = some (.slice (some ⟨b, q, none⟩) dl dc)) (hy : ev σ y = some (.slice (some ⟨b', q', none⟩) sl sc))
    (hP : copyOk P t = true) (hb : Blk w b L e) (hn : cs.length = Nat.min sl dl) (hsrc : w.rangeAt b' q' cs) (hl : q + cs.length ≤ L.length) (h1 : ∀ u ∈ cs, u.oneCell' = true)
    (hK : ∀ r, K r (w.setRow b (splice L q cs).toArray)) : OpTo P n σ o w K := by
  unfold copyOk at hP
  split at hP
  · rename_i el hu
    refine opTo_run (v := goInt cs.length) (w' := w.setRow b (splice L q cs).toArray) (fun a ha => ?_) (hK _)
    have hr := run_copy_row P w t t' o.type el b q dl dc ⟨b', q', none⟩ sl sc L.toArray e cs hu (sizeOk_info hP) hb hn (fun j u hj => by rw [Addr.add_mid]; exact hsrc j u hj) (by simpa using hl) h1
    have hr' : (Builtin.copy_ #[t, t'] o.type #[.slice (some ⟨b, q, none⟩) dl dc, .slice (some ⟨b', q', none⟩) sl sc]).run P w = .ok (goInt cs.length) (w.setRow b (splice L q cs).toArray) := by
      rw [hr]; simp [splice]
    simp [execOp, ho, resolve, invoke, builtin, ha.eval hx, ha.eval hy, hr']
  · cases hP

def fieldOne (P : Program) (s f off : Nat) : Bool :=
  match P.underlying s with
  | some (.struct fs) => match fs[f]? with
    | some d => d.offset == off && oneOk P d.type
    | none => false
  | _ => false
def fieldAgg (P : Program) (s f off m : Nat) : Bool :=
  match P.underlying s with
  | some (.struct fs) => match fs[f]? with
    | some d => d.offset == off && agOk P d.type m
    | none => false
  | _ => false

theorem oneOk_isAgg {t : Nat} (hs : oneOk P t = true) (w : World) : (isAgg t).run P w = .ok false w := by
  unfold oneOk at hs
  cases hu : P.underlying t with
  | none => simp [hu] at hs
  | some d =>
    unfold isAgg
    rw [Sem.run_bind, run_underlying hu w]
    cases d <;> simp_all
theorem agOk_isAgg {t m : Nat} (hs : agOk P t m = true) (w : World) : (isAgg t).run P w = .ok true w ∧ sizeOk P t m = true := by
  unfold agOk at hs
  cases hu : P.underlying t with
  | none => simp [hu] at hs
  | some d =>
    unfold isAgg
    rw [Sem.run_bind, run_underlying hu w]
    cases d <;> simp_all

theorem val_field1 {s f : Nat} {x : Operand} (off : Nat) (cs : List Value) (ho : o.op = .field s x f) (hx : ev σ x = some (.agg cs.toArray)) (hP : fieldOne P s f off = true) (hv : cs[off]? = some v) (w : World) : Val P n σ o w v := by
  intro a ha
  unfold fieldOne at hP
  split at hP
  · rename_i fs hu
    split at hP
    · rename_i d hd
      simp only [Bool.and_eq_true, beq_iff_eq] at hP
      obtain ⟨rfl, hP⟩ := hP
      simp [execOp, ho, ha.eval hx, Instr.field, run_underlying hu, hd, asAgg, part, oneOk_isAgg hP, hv]
    · cases hP
  · cases hP
theorem val_fieldAgg {s f m : Nat} {x : Operand} (off : Nat) (cs ds : List Value) (ho : o.op = .field s x f) (hx : ev σ x = some (.agg cs.toArray)) (hP : fieldAgg P s f off m = true) (hv : (cs.drop off).take m = ds) (w : World) : Val P n σ o w (.agg ds.toArray) := by
  intro a ha
  unfold fieldAgg at hP
  split at hP
  · rename_i fs hu
    split at hP
    · rename_i d hd
      simp only [Bool.and_eq_true, beq_iff_eq] at hP
      obtain ⟨rfl, hP⟩ := hP
      have h1 := agOk_isAgg hP w
      simp [execOp, ho, ha.eval hx, Instr.field, run_underlying hu, hd, asAgg, part, h1.1, sizeOk_run h1.2, hv]
    · cases hP
  · cases hP
end

def isBool (P : Program) (t : Nat) : Bool :=
  match P.underlying t with
  | some .bool => true
  | _ => false

theorem val_neBool {P : Program} {n : Nat} {σ : Env} {o : Oper} {t t' : Nat} {x y : Operand} (a b r : Bool) (h : isBool P t = true) (ho : o.op = .binOp .neq t x y t') (hx : ev σ x = some (.bool a)) (hy : ev σ y = some (.bool b)) (hr : (!(a == b)) = r) (w : World) : Val P n σ o w (.bool r) := by
  intro ac ha
  subst hr
  unfold isBool at h
  split at h
  · rename_i hu
    have he : (Op.equal t (.bool a) (.bool b)).run P w = .ok (a == b) w := run_equalIn_bool' w 9999 t a b hu
    simp [execOp, ho, ha.eval hx, ha.eval hy, eqGuard, binOp, he]
  · cases h


/-- A pointer that is not nil, held against nil. -/
def isPtr (P : Program) (t : Nat) : Bool :=
  match P.underlying t with
  | some (.pointer _) => true
  | _ => false
theorem val_neNil {P : Program} {n : Nat} {σ : Env} {o : Oper} {t t' : Nat} {x : Operand} {ad : Addr} (h : isPtr P t = true) (ho : o.op = .binOp .neq t x (.const (.pointer none)) t') (hx : ev σ x = some (.pointer (some ad))) (w : World) : Val P n σ o w (.bool true) := by
  intro a ha
  unfold isPtr at h
  split at h
  · rename_i e hu
    have he : ∀ d, (Op.equalIn (d + 1) t (.pointer (some ad)) (.pointer none)).run P w = .ok false w := fun d => by
      simp [Op.equalIn, run_underlying hu]
    have he' : (Op.equal t (.pointer (some ad)) (.pointer none)).run P w = .ok false w := he 9999
    have hc : a.eval (.const (.pointer none)) = .pointer none := rfl
    simp [execOp, ho, ha.eval hx, hc, eqGuard, binOp, he']
  · cases h

/-- Blocks of two types are two. -/
theorem Blk.ne {w : World} {a b : Nat} {L L' : List Value} {e e' : TypeId} (h : Blk w a L e) (h' : Blk w b L' e') (hne : e ≠ e') : a ≠ b := fun hab => by
  subst hab
  unfold Blk at h h'
  rw [h] at h'
  simp at h'
  exact hne h'.2
end E
end Go.Proofs.Ytmdjgejahnmfmaf

/- Laws of single operations on strings, and of structs of a string and a number. -/
namespace Go.Proofs.Ytmdjgejahnmfmaf
set_option maxRecDepth 20000
set_option maxHeartbeats 4000000
namespace E

section
variable {P : Program} {n : Nat} {σ : Env} {o : Oper}

def isStr (P : Program) (t : Nat) : Bool :=
  match P.underlying t with
  | some .string => true
  | _ => false
theorem isStr_spec {t : Nat} (h : isStr P t = true) : P.underlying t = some .string := by
  unfold isStr at h
  split at h
  · rename_i hu; exact hu
  · cases h

/-- s[i]. -/
theorem val_strAt {t : Nat} {x ix : Operand} {kk : IntKind} (s : ByteArray) (j : Nat) (c : UInt8) {i : Int} (h : isStr P t = true) (ho : o.op = .index t x ix) (hx : ev σ x = some (.string s)) (hi : ev σ ix = some (.int kk i))
    (hij : i = (j : Int)) (hc : s[j]? = some c) (w : World) : Val P n σ o w (.int .u8 (c.toNat : Nat)) := by
  intro a ha
  subst hij
  simp [execOp, ho, ha.eval hx, ha.eval hi, Instr.index, asIntOf, run_underlying (isStr_spec h), hc]

/-- len(s). -/
theorem val_strLen {t : Nat} {x : Operand} (s : ByteArray) (h : isStr P t = true) (ho : o.op = .call { callee := .builtin .len, args := #[x], argTypes := #[t] }) (hx : ev σ x = some (.string s)) (w : World) : Val P n σ o w (.int .i64 (s.size : Nat)) := by
  intro a ha
  simp [execOp, ho, resolve, invoke, builtin, Builtin.len_, run_underlying (isStr_spec h), ha.eval hx, goInt]

theorem val_eqStr {t t' : Nat} {x y : Operand} (a b : ByteArray) (r : Bool) (ho : o.op = .binOp .eql t x y t') (hx : ev σ x = some (.string a)) (hy : ev σ y = some (.string b)) (hr : (a.toList == b.toList) = r) (w : World) : Val P n σ o w (.bool r) := by
  intro ac ha
  subst hr
  simp [execOp, ho, ha.eval hx, ha.eval hy, eqGuard, binOp, Op.stringOp]
theorem val_neStr {t t' : Nat} {x y : Operand} (a b : ByteArray) (r : Bool) (ho : o.op = .binOp .neq t x y t') (hx : ev σ x = some (.string a)) (hy : ev σ y = some (.string b)) (hr : (!(a.toList == b.toList)) = r) (w : World) : Val P n σ o w (.bool r) := by
  intro ac ha
  subst hr
  simp [execOp, ho, ha.eval hx, ha.eval hy, eqGuard, binOp, Op.stringOp]

/-- A struct of a string and a number. -/
def isPair (P : Program) (t : Nat) : Bool :=
  match P.underlying t with
  | some (.struct fs) => match fs.toList with
    | [f, g] => f.offset == 0 && g.offset == 1 && (f.name != "_") && (g.name != "_") && isStr P f.type && (match P.underlying g.type with | some (.int _) => true | _ => false) && !(P.stoodInHeld t) && !(P.eqGuardType P.depth t)
    | _ => false
  | _ => false

theorem run_equal_pair {t : Nat} (h : isPair P t = true) (a b : ByteArray) (x y : Int) (w : World) :
    (Op.equalIn 10000 t (.agg #[.string a, .int .i64 x]) (.agg #[.string b, .int .i64 y])).run P w = .ok (a.toList == b.toList && x == y) w ∧ P.eqGuardType P.depth t = false := by
  unfold isPair at h
  split at h
  · rename_i fs hu
    split at h
    · rename_i f g hfs
      simp only [Bool.and_eq_true, beq_iff_eq, bne_iff_ne, Bool.not_eq_true'] at h
      obtain ⟨⟨⟨⟨⟨⟨⟨h1, h2⟩, h3⟩, h4⟩, h5⟩, h6⟩, h7⟩, h8⟩ := h
      refine ⟨?_, h8⟩
      have hf : P.fieldsOf t = fs := by simp [Program.fieldsOf, hu]
      have hs := isStr_spec h5
      split at h6
      · rename_i k hk
        rw [run_equalIn_struct w 9999 t _ _ (by rw [hf]; exact hu) h7, hf, hfs]
        have e1 := run_equalIn_string (P := P) w 9998 f.type a b hs
        have e2 := run_equalIn_int (P := P) w 9998 g.type .i64 k x y hk
        have p1 : (part f.type #[.string a, .int .i64 x] 0).run P w = .ok (.string a) w := by simp [part, isAgg, run_underlying hs]
        have p2 : (part f.type #[.string b, .int .i64 y] 0).run P w = .ok (.string b) w := by simp [part, isAgg, run_underlying hs]
        have p3 : (part g.type #[.string a, .int .i64 x] 1).run P w = .ok (.int .i64 x) w := by simp [part, isAgg, run_underlying hk]
        have p4 : (part g.type #[.string b, .int .i64 y] 1).run P w = .ok (.int .i64 y) w := by simp [part, isAgg, run_underlying hk]
        simp only [Op.eqFields, h1, h2, h3, h4, ne_eq, not_false_eq_true, if_true, Sem.run_bind, p1, p2, Result.andThen_ok, e1]
        generalize (a.toList == b.toList) = p at *
        generalize (x == y) = q at *
        have e2' : (Op.equalIn 9999 g.type (.int .i64 x) (.int .i64 y)).run P w = .ok q w := e2
        cases p <;> cases q <;> simp [p3, p4, e2']
      · cases h6
    · cases h
  · cases h
theorem val_nePair {t t' : Nat} {x y : Operand} (a b : ByteArray) (k l : Int) (r : Bool) (h : isPair P t = true) (ho : o.op = .binOp .neq t x y t') (hx : ev σ x = some (.agg #[.string a, .int .i64 k])) (hy : ev σ y = some (.agg #[.string b, .int .i64 l]))
    (hr : (!(a.toList == b.toList && k == l)) = r) (w : World) : Val P n σ o w (.bool r) := by
  intro ac ha
  subst hr
  obtain ⟨h1, h2⟩ := run_equal_pair h a b k l w
  simp only [execOp, ho, ha.eval hx, ha.eval hy, Sem.run_bind, run_eqGuard_agg w .neq t _ _ _ _ h2, Result.andThen_ok, run_neq_struct, h1]
  simp
theorem val_eqPair {t t' : Nat} {x y : Operand} (a b : ByteArray) (k l : Int) (r : Bool) (h : isPair P t = true) (ho : o.op = .binOp .eql t x y t') (hx : ev σ x = some (.agg #[.string a, .int .i64 k])) (hy : ev σ y = some (.agg #[.string b, .int .i64 l]))
    (hr : (a.toList == b.toList && k == l) = r) (w : World) : Val P n σ o w (.bool r) := by
  intro ac ha
  subst hr
  obtain ⟨h1, h2⟩ := run_equal_pair h a b k l w
  simp only [execOp, ho, ha.eval hx, ha.eval hy, Sem.run_bind, run_eqGuard_agg w .eql t _ _ _ _ h2, Result.andThen_ok, run_eql_struct, h1]
  simp
end
end E
end Go.Proofs.Ytmdjgejahnmfmaf

/- Slices that a call owns: over a row that may be longer than the slice's capacity; append to them; cutting them to their beginning. -/
namespace Go.Proofs.Ytmdjgejahnmfmaf
set_option maxRecDepth 20000
set_option maxHeartbeats 4000000
namespace E

/-- v is a slice of n elements, the cells xs, over a row from its head on, of blocks from B on (or nil). -/
def Own (w : World) (B e size : Nat) (v : Value) (n : Nat) (xs : List Value) : Prop :=
  xs.length = n * size ∧ ((v = .slice none 0 0 ∧ n = 0) ∨
    ∃ g cap cur, v = .slice (some ⟨g, 0, none⟩) n cap ∧ B ≤ g ∧ Blk w g cur e ∧ n ≤ cap ∧ cap * size ≤ cur.length ∧ cur.take (n * size) = xs)

def capOf : Value → Nat
  | .slice _ _ c => c
  | _ => 0

section
variable {w w' : World} {B e size n : Nat} {v : Value} {xs : List Value}

theorem Own.nil (w : World) (B e size : Nat) : Own w B e size (.slice none 0 0) 0 [] := ⟨by simp, .inl ⟨rfl, rfl⟩⟩
theorem Own.lt (h : Own w B e size v n xs) : ∀ k, v.ownBlock = some k → B ≤ k ∧ k < w.heap.size := by
  intro k hk
  rcases h.2 with ⟨rfl, _⟩ | ⟨g, cap, cur, rfl, hb, hg, _⟩
  · simp [Value.ownBlock] at hk
  · simp [Value.ownBlock] at hk
    subst hk
    exact ⟨hb, hg.lt⟩
theorem Own.keep {fp : List Nat} (h : Own w B e size v n xs) (hk : Keep fp w w') (hn : ∀ k, v.ownBlock = some k → k ∉ fp) : Own w' B e size v n xs := by
  refine ⟨h.1, ?_⟩
  rcases h.2 with h0 | ⟨g, cap, cur, rfl, hb, hg, r⟩
  · exact .inl h0
  · exact .inr ⟨g, cap, cur, rfl, hb, hk.blk hg (hn g rfl), r⟩
theorem Own.form (h : Own w B e size v n xs) : ∃ a cap, v = .slice a n cap := by
  rcases h.2 with ⟨h1, h2⟩ | ⟨g, cap, cur, h1, _⟩
  · exact ⟨none, 0, by rw [h1, h2]⟩
  · exact ⟨_, cap, h1⟩
theorem Own.range (h : Own w B e size v n xs) {q : Nat} {cs : List Value} (hc : (xs.drop q).take cs.length = cs) (h0 : 0 < n) : ∃ g cap, v = .slice (some ⟨g, 0, none⟩) n cap ∧ w.rangeAt g q cs := by
  rcases h.2 with ⟨_, h2⟩ | ⟨g, cap, cur, h1, _, hb, _, _, ht⟩
  · omega
  · refine ⟨g, cap, h1, fun j u hu => hb.cell ?_⟩
    rw [← hc, List.getElem?_take] at hu
    split at hu
    · rw [List.getElem?_drop, ← ht, List.getElem?_take] at hu
      split at hu
      · exact hu
      · cases hu
    · cases hu
/-- Its beginning, with no room behind it. -/
theorem Own.cut (h : Own w B e size v n xs) {m : Nat} (hm : m ≤ n) {a : Option Addr} {cap : Nat} (hv : v = .slice a n cap) : Own w B e size (.slice a m m) m (xs.take (m * size)) := by
  refine ⟨?_, ?_⟩
  · rw [List.length_take, h.1, Nat.min_eq_left (Nat.mul_le_mul_right _ hm)]
  · rcases h.2 with ⟨h1, h2⟩ | ⟨g, c, cur, h1, hb, hg, hc, hl, ht⟩
    · rw [h1] at hv
      injection hv with e1 e2 e3
      subst e1
      have : m = 0 := by omega
      subst this
      exact .inl ⟨rfl, rfl⟩
    · rw [h1] at hv
      injection hv with e1 e2 e3
      subst e1
      refine .inr ⟨g, m, cur, rfl, hb, hg, Nat.le_refl _, Nat.le_trans (Nat.mul_le_mul_right _ (Nat.le_trans hm hc)) hl, ?_⟩
      rw [← ht, List.take_take, Nat.min_eq_left (Nat.mul_le_mul_right _ hm)]
theorem Own.cap_le (h : Own w B e size v n xs) : n ≤ capOf v := by
  rcases h.2 with ⟨_, h2⟩ | ⟨g, cap, cur, h1, _, _, hc, _⟩
  · omega
  · rw [h1]; exact hc

theorem keep_grown {w w' : World} {row : Option Nat} (hg : w.grownBy w' row) : Keep row.toList w w' := (Keep.refl _ _).grown hg fun k e => .inl (by simp [e])
end

theorem opTo_app {P : Program} {n : Nat} {σ : Env} {o : Oper} {w : World} {v : Value} {t : TypeId} {s x : Operand} {b q m c ln : Nat} {K : Value → World → Prop} (B e size bytes : Nat) (xs news : List Value)
    (ho : o.op = .call { callee := .builtin .append, args := #[s, x], argTypes := #[t, t] }) (hs : ev σ s = some v) (hx : ev σ x = some (.slice (some ⟨b, q, none⟩) m c))
    (hP : appOk P t e size bytes = true) (hown : Own w B e size v ln xs) (hnews : w.rangeAt b q news) (hl : news.length = m * size) (h1 : ∀ u ∈ news, u.oneCell' = true)
    (hm : 0 < m) (h63 : ln + m ≤ maxLen) (hbytes : (ln + m) * bytes ≤ 140737488355328) (hbase : B ≤ w.heap.size)
    (hK : ∀ g cap w', Own w' B e size (.slice (some ⟨g, 0, none⟩) (ln + m) cap) (ln + m) (xs ++ news) → ((v.ownBlock = some g ∧ ln + m ≤ capOf v ∧ Keep [g] w w') ∨ (g = w.heap.size ∧ Keep [] w w' ∧ w'.heap.size = w.heap.size + 1)) → K (.slice (some ⟨g, 0, none⟩) (ln + m) cap) w') : OpTo P n σ o w K := by
  obtain ⟨i, z, hu, hi, hz, hsize, hby, hzs⟩ := appOk_run hP
  subst hsize
  subst hby
  have hlen : (xs ++ news).length = (ln + m) * i.size := by rw [List.length_append, hown.1, hl, Nat.add_mul]
  have hnews' : ∀ j u, news[j]? = some u → w.cell? ((⟨b, q, none⟩ : Addr).add j) = some u := fun j u hj => by rw [Addr.add_mid]; exact hnews j u hj
  have h63' : ((ln + m : Nat) : Int) ≤ 9223372036854775807 := by simp only [maxLen] at h63; omega
  have key : ∀ v' w', (Builtin.append_ #[t, t] o.type #[v, .slice (some ⟨b, q, none⟩) m c]).run P w = .ok v' w' → K v' w' → OpTo P n σ o w K := fun v' w' hr hk =>
    opTo_run (w' := w') (v := v') (fun a ha => by simp [execOp, ho, resolve, invoke, builtin, ha.eval hs, ha.eval hx, hr]) hk
  have hnew : ∀ (old : Nat) (cur : Array Value), cur = xs.toArray ++ news.toArray ++ Builtin.zeroCells z.cells (grownCap w (ln + m) old e - (ln + m)) →
      Own (w.drew.alloc (.cells cur e)) B e i.size (.slice (some ⟨w.heap.size, 0, none⟩) (ln + m) (grownCap w (ln + m) old e)) (ln + m) (xs ++ news) ∧ Keep [] w (w.drew.alloc (.cells cur e)) := fun old cur hcur => by
    have hge := grownCap_ge w (ln + m) old e
    refine ⟨⟨hlen, .inr ⟨w.heap.size, _, cur.toList, rfl, hbase, ?_, hge, ?_, ?_⟩⟩, ((Keep.refl _ _).drew).alloc _⟩
    · have := Blk.new w.drew cur.toList e
      rwa [Array.toArray_toList] at this
    · rw [hcur]
      simp only [Array.toList_append, List.length_append, Array.length_toList, size_zeroCells, hzs, hown.1, hl, ← Nat.add_mul]
      rw [Nat.add_sub_cancel' hge]
      exact Nat.le_refl _
    · rw [hcur]
      simp only [Array.toList_append]
      rw [← hlen]
      exact List.take_left
  rcases hown.2 with ⟨rfl, rfl⟩ | ⟨g, cap, cur, rfl, hbg, hg, hnc, hcs, htake⟩
  · have hxs : xs = [] := List.eq_nil_of_length_eq_zero (by simpa using hown.1)
    subst hxs
    have hr := run_append_nil (P := P) w t o.type e i z hu hi hz ⟨b, q, none⟩ m c news hl hnews' hm (by omega) (by simp only [Nat.zero_add] at hbytes; omega)
    have hn := hnew 0 (news.toArray ++ Builtin.zeroCells z.cells (grownCap w m 0 e - m)) (by simp)
    simp only [Nat.zero_add] at hn hK
    exact key _ _ hr (hK _ _ _ hn.1 (.inr ⟨rfl, hn.2, World.size_alloc _ _⟩))
  · by_cases hroom : ln + m ≤ cap
    · have hfit : ln * i.size + news.length ≤ cur.toArray.size := by
        rw [hl, ← Nat.add_mul, List.size_toArray]
        exact Nat.le_trans (Nat.mul_le_mul_right _ hroom) hcs
      have hr := run_append_room (P := P) w t o.type e i hu hi g ln cap cur.toArray hg ⟨b, q, none⟩ m c news hl hnews' h1 hroom hfit
      refine key _ _ hr (hK _ _ _ ⟨hlen, .inr ⟨g, cap, _, rfl, hbg, hg.set _, hroom, ?_, ?_⟩⟩ (.inl ⟨rfl, hroom, (Keep.refl _ _).setRow _ _ (.inl (by simp))⟩))
      · simp only [List.size_toArray] at hfit
        simp only [List.length_append, List.length_take, List.length_drop]
        omega
      · rw [← hlen, htake]
        exact List.take_left
    · have holds : ∀ j u, xs[j]? = some u → w.cell? ((⟨g, 0, none⟩ : Addr).add j) = some u := fun j u hj => by
        rw [Addr.add_mid, Nat.zero_add]
        refine hg.cell ?_
        rw [← htake, List.getElem?_take] at hj
        split at hj
        · exact hj
        · cases hj
      have hr := run_append_grow (P := P) w t o.type e i z hu hi hz ⟨g, 0, none⟩ ln cap xs hown.1 holds ⟨b, q, none⟩ m c news hl hnews' (by omega) h63' (growslice_fits (by omega) hbytes)
      have hn := hnew cap _ rfl
      exact key _ _ hr (hK _ _ _ hn.1 (.inr ⟨rfl, hn.2, World.size_alloc _ _⟩))

section
variable {P : Program} {T : Tbl} {n : Nat} {σ : Env} {o : Oper}
/-- s[:h:m]. -/
theorem val_slice3 {t : TypeId} {x hi mx : Operand} {a : Option Addr} {len cap sz : Nat} {k1 k2 : IntKind} {i1 i2 : Int} (h m : Nat) (hT : T.check P = true) (ho : o.op = .slice t x none (some hi) (some mx)) (hx : ev σ x = some (.slice a len cap))
    (h1 : ev σ hi = some (.int k1 i1)) (h2 : ev σ mx = some (.int k2 i2)) (ht : find T.sl t = some sz) (e1 : i1 = (h : Int)) (e2 : i2 = (m : Int)) (hm : m ≤ cap) (hh : h ≤ m) (w : World) : Val P n σ o w (.slice a h m) := by
  intro ac ha
  subst e1
  subst e2
  have hs := Tbl.sl_ok hT ht
  unfold slOk at hs
  split at hs
  · rename_i e hu
    simp [execOp, ho, ha.eval hx, ha.eval h1, ha.eval h2, Instr.sliceAt, Instr.slice, Instr.sliceBounds, Instr.sliceBound, asIntOf, run_underlying hu, sizeOk_run hs, hm, hh]
    cases a <;> simp [Addr.add]
  · cases hs
end
end E
end Go.Proofs.Ytmdjgejahnmfmaf

/- More laws of single operations: a quotient, a pointer that is held against nil, one of a row of bools, a slice that is made. -/
namespace Go.Proofs.Ytmdjgejahnmfmaf
set_option maxRecDepth 20000
set_option maxHeartbeats 4000000
namespace E

section
variable {P : Program} {T : Tbl} {n : Nat} {σ : Env} {o : Oper} {w : World}

theorem val_quo {t t' : TypeId} {x y : Operand} (k : IntKind) (a b r : Int) (ho : o.op = .binOp .quo t x y t') (hx : ev σ x = some (.int k a)) (hy : ev σ y = some (.int k b)) (hb : b ≠ 0)
    (hr : k.wrap (a.tdiv b) = r) (w : World) : Val P n σ o w (.int k r) := by
  intro ac ha
  subst hr
  simp [execOp, ho, ha.eval hx, ha.eval hy, eqGuard, binOp, Op.intDiv, hb]

theorem quo8 (k : Nat) (h : k < 1000000) : IntKind.i64.wrap (((k : Nat) : Int).tdiv 8) = ((k / 8 : Nat) : Int) := by
  have e : ((k : Nat) : Int).tdiv 8 = ((k / 8 : Nat) : Int) := by
    rw [Int.tdiv_eq_ediv_of_nonneg (by omega)]
    omega
  rw [e, wrap_i64 (by omega) (by omega)]

theorem val_eqNil {t t' : Nat} {x : Operand} {ad : Addr} (h : isPtr P t = true) (ho : o.op = .binOp .eql t x (.const (.pointer none)) t') (hx : ev σ x = some (.pointer (some ad))) (w : World) : Val P n σ o w (.bool false) := by
  intro a ha
  unfold isPtr at h
  split at h
  · rename_i e hu
    have he : ∀ d, (Op.equalIn (d + 1) t (.pointer (some ad)) (.pointer none)).run P w = .ok false w := fun d => by
      simp [Op.equalIn, run_underlying hu]
    have he' : (Op.equal t (.pointer (some ad)) (.pointer none)).run P w = .ok false w := he 9999
    have hc : a.eval (.const (.pointer none)) = .pointer none := rfl
    simp [execOp, ho, ha.eval hx, hc, eqGuard, binOp, he']
  · cases h

def arrBool (P : Program) (t len : Nat) : Bool :=
  match P.underlying t with
  | some (.array l e) => l == len && (match P.underlying e with | some .bool => true | _ => false) && sizeOk P e 1
  | _ => false

/-- One out of a row of bools that is a value. -/
theorem val_atB {t len : Nat} {x ix : Operand} {kk : IntKind} (cs : List Value) (v : Value) (j : Nat) {i : Int} (h : arrBool P t len = true) (ho : o.op = .index t x ix) (hx : ev σ x = some (.agg cs.toArray)) (hi : ev σ ix = some (.int kk i))
    (hij : i = (j : Int)) (hj : j < len) (hc : cs[j]? = some v) (w : World) : Val P n σ o w v := by
  intro a ha
  subst hij
  unfold arrBool at h
  split at h
  · rename_i l e hu
    simp only [Bool.and_eq_true, beq_iff_eq] at h
    obtain ⟨⟨rfl, h1⟩, h2⟩ := h
    split at h1
    · rename_i hk
      have hg : cs.toArray[j]? = some v := by simpa using hc
      simp [execOp, ho, ha.eval hx, ha.eval hi, Instr.index, asIntOf, run_underlying hu, hj, sizeOk_run h2, part, isAgg, run_underlying hk]
      simp [hc]
    · cases h1
  · cases h

theorem opTo_make {t e : TypeId} {l c : Operand} {k1 k2 : IntKind} {K : Value → World → Prop} (len : Nat) (cells : List Value) (i : TypeInfo) (z : Value) (ho : o.op = .makeSlice t l c) (hl : ev σ l = some (.int k1 (len : Nat))) (hc : ev σ c = some (.int k2 (len : Nat)))
    (ht : P.underlying t = some (.slice e)) (hi : P.info? e = some i) (hz : i.zero = some z) (hb : (i.bytes : Int) * ((len : Nat) : Int) ≤ 281474976710656) (h63 : ((len : Nat) : Int) ≤ 9223372036854775807)
    (hcells : madeCells z.cells (len * i.size) = cells.toArray) (hK : K (.slice (some ⟨w.heap.size, 0, none⟩) len len) (w.alloc (.cells cells.toArray e))) : OpTo P n σ o w K := by
  refine opTo_run (w' := w.alloc (.cells cells.toArray e)) (v := .slice (some ⟨w.heap.size, 0, none⟩) len len) (fun a ha => ?_) hK
  have hr := run_make (P := P) w t e i z ht hi hz k1 k2 ((len : Nat) : Int) ((len : Nat) : Int) (by omega) (Int.le_refl _) hb h63
  simp only [Int.toNat_natCast] at hr
  rw [hcells] at hr
  simp [execOp, ho, ha.eval hl, ha.eval hc, hr]
end
end E
end Go.Proofs.Ytmdjgejahnmfmaf

/- Short laws for the steps that come most: a comparison that is so, or is not; a sum within bounds. -/
namespace Go.Proofs.Ytmdjgejahnmfmaf
set_option maxRecDepth 20000
set_option maxHeartbeats 4000000
namespace E

def cmpP (op : BinOp) (a b : Int) : Prop :=
  match op with
  | .eql => a = b
  | .neq => a ≠ b
  | .lss => a < b
  | .leq => a ≤ b
  | .gtr => a > b
  | .geq => a ≥ b
  | _ => False
def cmpOk (op : BinOp) : Bool :=
  match op with
  | .eql | .neq | .lss | .leq | .gtr | .geq => true
  | _ => false
theorem intOp_yes {op : BinOp} {k : IntKind} {a b : Int} (h : cmpP op a b) : intOp op k a b = some (.bool true) := by
  cases op <;> simp_all [cmpP, intOp]
theorem intOp_no {op : BinOp} {k : IntKind} {a b : Int} (hk : cmpOk op = true) (h : ¬ cmpP op a b) : intOp op k a b = some (.bool false) := by
  cases op <;> simp_all [cmpP, cmpOk, intOp]
def ariP (op : BinOp) (a b v : Int) : Prop :=
  match op with
  | .add => v = a + b ∧ -9223372036854775808 ≤ a + b ∧ a + b < 9223372036854775808
  | .sub => v = a - b ∧ -9223372036854775808 ≤ a - b ∧ a - b < 9223372036854775808
  | _ => False
theorem intOp_num {op : BinOp} {a b v : Int} (h : ariP op a b v) : intOp op .i64 a b = some (.int .i64 v) := by
  cases op <;> simp only [ariP] at h
  · obtain ⟨rfl, h1, h2⟩ := h
    simp only [intOp, wrap_i64 h1 h2]
  · obtain ⟨rfl, h1, h2⟩ := h
    simp only [intOp, wrap_i64 h1 h2]

section
variable {P : Program} {f n : Nat} {ops : Array Oper} {k : List Item} {R : Post} {σ : Env} {w : World} {o : Oper} {l : List Oper} {op : BinOp} {t t' : TypeId} {x y : Operand} {kk : IntKind} {a b : Int}

theorem pl_yes (hg : guardOf ops σ o.guard = some true) (ho : o.op = .binOp op t x y t') (hx : ev σ x = some (.int kk a)) (hy : ev σ y = some (.int kk b)) (hd : dstOk n o.dst = true) (hc : cmpP op a b)
    (h : Pl P f n ops k R l (put σ o.dst (.bool true)) w) : Pl P f n ops k R (o :: l) σ w := pl_val _ hg hd (val_int kk a b _ ho hx hy (intOp_yes hc) w) h
theorem pl_no (hg : guardOf ops σ o.guard = some true) (ho : o.op = .binOp op t x y t') (hx : ev σ x = some (.int kk a)) (hy : ev σ y = some (.int kk b)) (hd : dstOk n o.dst = true) (hk : cmpOk op = true) (hc : ¬ cmpP op a b)
    (h : Pl P f n ops k R l (put σ o.dst (.bool false)) w) : Pl P f n ops k R (o :: l) σ w := pl_val _ hg hd (val_int kk a b _ ho hx hy (intOp_no hk hc) w) h
theorem pl_num (v : Int) (hg : guardOf ops σ o.guard = some true) (ho : o.op = .binOp op t x y t') (hx : ev σ x = some (.int .i64 a)) (hy : ev σ y = some (.int .i64 b)) (hd : dstOk n o.dst = true) (hc : ariP op a b v)
    (h : Pl P f n ops k R l (put σ o.dst (.int .i64 v)) w) : Pl P f n ops k R (o :: l) σ w := pl_val _ hg hd (val_int .i64 a b _ ho hx hy (intOp_num hc) w) h

variable {S : World → Prop} {T : List Nat} {fuel m : Nat}
theorem dr_yes (i : Nat) (hi : ops[i]? = some o) (hk : takeOk ops m i = true) (hg : guardOf ops σ o.guard = some true) (ho : o.op = .binOp op t x y t') (hx : ev σ x = some (.int kk a)) (hy : ev σ y = some (.int kk b)) (hd : dstOk n o.dst = true) (hc : cmpP op a b)
    (h : Dr P f n ops k R S T fuel (m ||| 2 ^ i) (put σ o.dst (.bool true)) w) : Dr P f n ops k R S T (fuel + 1) m σ w := dr_any i _ hi hk hg hd (fun w => val_int kk a b _ ho hx hy (intOp_yes hc) w) h
theorem dr_no (i : Nat) (hi : ops[i]? = some o) (hk : takeOk ops m i = true) (hg : guardOf ops σ o.guard = some true) (ho : o.op = .binOp op t x y t') (hx : ev σ x = some (.int kk a)) (hy : ev σ y = some (.int kk b)) (hd : dstOk n o.dst = true) (hok : cmpOk op = true) (hc : ¬ cmpP op a b)
    (h : Dr P f n ops k R S T fuel (m ||| 2 ^ i) (put σ o.dst (.bool false)) w) : Dr P f n ops k R S T (fuel + 1) m σ w := dr_any i _ hi hk hg hd (fun w => val_int kk a b _ ho hx hy (intOp_no hok hc) w) h
theorem dr_num (i : Nat) (v : Int) (hi : ops[i]? = some o) (hk : takeOk ops m i = true) (hg : guardOf ops σ o.guard = some true) (ho : o.op = .binOp op t x y t') (hx : ev σ x = some (.int .i64 a)) (hy : ev σ y = some (.int .i64 b)) (hd : dstOk n o.dst = true) (hc : ariP op a b v)
    (h : Dr P f n ops k R S T fuel (m ||| 2 ^ i) (put σ o.dst (.int .i64 v)) w) : Dr P f n ops k R S T (fuel + 1) m σ w := dr_any i _ hi hk hg hd (fun w => val_int .i64 a b _ ho hx hy (intOp_num hc) w) h
theorem tg_yes {i : Nat} (hi : ops[i]? = some o) (hk : takeOk ops m i = true) (hg : guardOf ops σ o.guard = some true) (ho : o.op = .binOp op t x y t') (hx : ev σ x = some (.int kk a)) (hy : ev σ y = some (.int kk b)) (hd : dstOk n o.dst = true) (hc : cmpP op a b) :
    Tg i (Dr P f n ops k R S T fuel (m ||| 2 ^ i) (put σ o.dst (.bool true)) w → Dr P f n ops k R S T (fuel + 1) m σ w) := fun h => dr_yes i hi hk hg ho hx hy hd hc h
theorem tg_no {i : Nat} (hi : ops[i]? = some o) (hk : takeOk ops m i = true) (hg : guardOf ops σ o.guard = some true) (ho : o.op = .binOp op t x y t') (hx : ev σ x = some (.int kk a)) (hy : ev σ y = some (.int kk b)) (hd : dstOk n o.dst = true) (hok : cmpOk op = true) (hc : ¬ cmpP op a b) :
    Tg i (Dr P f n ops k R S T fuel (m ||| 2 ^ i) (put σ o.dst (.bool false)) w → Dr P f n ops k R S T (fuel + 1) m σ w) := fun h => dr_no i hi hk hg ho hx hy hd hok hc h
end

section
variable {P : Program} {n : Nat} {σ : Env} {o : Oper} {w : World} {v : Value} {K : Value → World → Prop}
theorem opTo_boxN {t : TypeId} {x : Operand} (cs : List Value) (ho : o.op = .box t x) (hx : ev σ x = some v) (hc : v.cells = cs.toArray)
    (hK : ∀ w1 b, b = w.heap.size → w1.heap.size = b + 1 → Keep [] w w1 → Blk w1 b cs t → K (.pointer (some ⟨b, 0, none⟩)) w1) : OpTo P n σ o w K :=
  opTo_box cs ho hx hc (hK _ _ rfl (World.size_alloc _ _) ((Keep.refl _ _).alloc _) (Blk.new _ _ _))
theorem opTo_allocN {t : TypeId} (cs : List Value) (ho : o.op = .alloc t) (hz : ((P.info? t).bind (·.zero)).map (·.cells) = some cs.toArray)
    (hK : ∀ w1 b, b = w.heap.size → w1.heap.size = b + 1 → Keep [] w w1 → Blk w1 b cs t → K (.pointer (some ⟨b, 0, none⟩)) w1) : OpTo P n σ o w K :=
  opTo_alloc cs ho hz (hK _ _ rfl (World.size_alloc _ _) ((Keep.refl _ _).alloc _) (Blk.new _ _ _))
theorem opTo_sliceN {t len : Nat} {ps : Array (Nat × Operand)} {vs : List (Nat × Value)} (e : TypeId) (cells : List Value) (ho : o.op = .buildSlice t len ps) (hv : evParts σ ps.toList = some vs)
    (hb : sliceCells P t len vs = some (e, cells.toArray)) (hK : ∀ w1 b, b = w.heap.size → w1.heap.size = b + 1 → Keep [] w w1 → Blk w1 b cells e → K (.slice (some ⟨b, 0, none⟩) len len) w1) : OpTo P n σ o w K :=
  opTo_buildSlice e cells ho hv hb (hK _ _ rfl (World.size_alloc _ _) ((Keep.refl _ _).alloc _) (Blk.new _ _ _))
theorem opTo_storeN {t : TypeId} {x y : Operand} {b i : Nat} {L : List Value} {e : TypeId} (cs : List Value) (ho : o.op = .store t x y) (hx : ev σ x = some (.pointer (some ⟨b, i, none⟩))) (hy : ev σ y = some v) (hc : v.cells = cs.toArray)
    (hz : sizeOk P t cs.length = true) (hb : Blk w b L e) (hl : i + cs.length ≤ L.length) (h1 : ∀ u ∈ cs, u.oneCell' = true)
    (hK : ∀ w1, w1.heap.size = w.heap.size → Keep [b] w w1 → Blk w1 b (splice L i cs) e → K undef w1) : OpTo P n σ o w K :=
  opTo_store cs ho hx hy hc hz hb hl h1 (hK _ (setRow_size _ _ _) ((Keep.refl _ _).setRow _ _ (.inl (by simp))) (hb.set _))
end
theorem Keep.trB {fp : List Nat} {w w' w'' : World} {b : Nat} (h : Keep fp w w') (h' : Keep [b] w' w'') (hb : w.heap.size ≤ b) : Keep fp w w'' :=
  h.trans h' fun k hk => .inr (by simp at hk; omega)
theorem blk_loadVar {P : Program} {T : Tbl} {w : World} {c : Nat} {L : List Value} {e t : TypeId} (hT : T.check P = true) (h : Blk w c L e) (ht : find T.ag t = some L.length) : (loadVar t ⟨c, 0, none⟩).run P w = .ok (.agg L.toArray) w :=
  loadVar_agg hT ht (h.range (by simp))
theorem splice_whole {L cs : List Value} (h : cs.length = L.length) : splice L 0 cs = cs := by
  simp [splice, h]

/-- What F allows is there. -/
def In (F : Nat → Prop) (w : World) : Prop := ∀ k, F k → k < w.heap.size
section
variable {F : Nat → Prop} {w w' : World} {fp : List Nat}
theorem In.keep (h : In F w) (hk : Keep fp w w') : In F w' := fun k hF => Nat.lt_of_lt_of_le (h k hF) hk.size
theorem In.lt (w : World) : In (fun b => b < w.heap.size) w := fun _ h => h
end
theorem range_keep {w w' : World} {b q : Nat} {cs : List Value} {fp : List Nat} (h : w.rangeAt b q cs) (hk : Keep fp w w') (hb : b < w.heap.size) (hn : b ∉ fp) : w'.rangeAt b q cs := fun j v hv => by
  rw [World.cell?_of_block (w := w) (hk.block b hb hn)]
  exact h j v hv

end E
end Go.Proofs.Ytmdjgejahnmfmaf

/- Reading an argument: rows of integers, and lists chosen index by index. -/
namespace Go.Proofs.Ytmdjgejahnmfmaf
set_option maxRecDepth 20000
set_option maxHeartbeats 4000000
namespace E

section
variable {H : Type} {enc : TypeId × Value → H} {P : Program} {w : World} {base : Nat} {spare : Nat → Bool} {held : Bool} {fuel : Nat} {t : TypeId} {cs : List Value} {x : DataW H × List MemPlace}

theorem trod_int1 {k : IntKind} (ht : P.underlying t = some (.int k)) (h : DataW.trod enc P w base spare held fuel t cs = some x) : ∃ n, cs = [.int k n] ∧ (Lit.int k n).wf = true := by
  obtain ⟨n, h1, _, h3⟩ := DataW.trod_int ht h
  exact ⟨n, h1, h3⟩

/-- Numbers, of a family of facts. -/
theorem choose_list {α : Type} {p : Nat → α → Prop} : ∀ n, (∀ i, i < n → ∃ a, p i a) → ∃ l : List α, l.length = n ∧ ∀ i a, l[i]? = some a → p i a
  | 0, _ => ⟨[], rfl, fun i a h => by simp at h⟩
  | n + 1, h => by
    obtain ⟨l, hl, hp⟩ := choose_list n fun i hi => h i (Nat.lt_succ_of_lt hi)
    obtain ⟨a, ha⟩ := h n (Nat.lt_succ_self n)
    refine ⟨l ++ [a], by simp [hl], fun i b hb => ?_⟩
    rcases Nat.lt_or_ge i l.length with hlt | hge
    · rw [List.getElem?_append_left hlt] at hb
      exact hp i b hb
    · rw [List.getElem?_append_right hge] at hb
      have : i - l.length = 0 := by
        rcases Nat.eq_zero_or_pos (i - l.length) with h0 | h0
        · exact h0
        · rw [List.getElem?_eq_none (by simp; omega)] at hb; cases hb
      rw [this] at hb
      simp at hb
      subst hb
      have hi : i = n := by omega
      rw [hi]; exact ha

/-- An array of integers. -/
theorem trod_ints {n e : Nat} {k : IntKind} (ht : P.underlying t = some (.array n e)) (he : P.underlying e = some (.int k)) (hc : P.cellsOf e = 1) (hn : P.cellsOf t = n) (h : DataW.trod enc P w base spare held fuel t cs = some x) :
    ∃ ns : List Int, cs = ns.map (fun z => Value.int k z) ∧ ns.length = n := by
  obtain ⟨xs, m, _, _, hl, hlen, hx⟩ := DataW.trod_array ht h
  have hall : ∀ i, i < n → ∃ z : Int, cs[i]? = some (.int k z) := fun i hi => by
    have h1 := hx i hi
    rw [hc, Nat.mul_one, List.getElem?_eq_getElem (by omega)] at h1
    obtain ⟨z, hz, _⟩ := trod_int1 he h1
    refine ⟨z, ?_⟩
    have : ((cs.drop i).take 1)[0]? = some (.int k z) := by rw [hz]; rfl
    simpa using this
  obtain ⟨ns, hns, hp⟩ := choose_list n hall
  refine ⟨ns, ?_, hns⟩
  apply List.ext_getElem?
  intro i
  rcases Nat.lt_or_ge i n with hi | hi
  · have h1 : ns[i]? = some ns[i] := List.getElem?_eq_getElem (by omega)
    rw [hp i _ h1]
    simp [h1]
  · rw [List.getElem?_eq_none (by omega), List.getElem?_eq_none (by simp; omega)]

theorem cells?_get {a : Addr} {n : Nat} (h : w.cells? base a n = some cs) : cs.length = n ∧ ∀ j v, cs[j]? = some v → w.cell? (a.add j) = some v := by
  unfold World.cells? at h
  split at h
  · have hl := mapM_some_length h
    simp only [List.length_range] at hl
    refine ⟨hl, fun j v hv => ?_⟩
    have hj : j < n := by
      have := (List.getElem?_eq_some_iff.1 hv).1
      omega
    have := mapM_some_get h j j (by simp [hj])
    rw [this]; exact hv
  · cases h

theorem flat_get {α : Type} {f : α → List Value} {k : Nat} (hk : 0 < k) : ∀ {L : List α} {j : Nat} {v : Value}, (∀ p ∈ L, (f p).length = k) → (L.flatMap f)[j]? = some v → ∃ p, L[j / k]? = some p ∧ (f p)[j % k]? = some v
  | [], _, _, _, h => by simp at h
  | a :: r, j, v, hl, h => by
    have ha := hl a (by simp)
    rw [List.flatMap_cons] at h
    rcases Nat.lt_or_ge j k with hj | hj
    · rw [List.getElem?_append_left (by omega)] at h
      exact ⟨a, by rw [Nat.div_eq_of_lt hj]; rfl, by rw [Nat.mod_eq_of_lt hj]; exact h⟩
    · rw [List.getElem?_append_right (by omega), ha] at h
      obtain ⟨p, h1, h2⟩ := flat_get hk (fun p hp => hl p (List.mem_cons_of_mem _ hp)) h
      refine ⟨p, ?_, ?_⟩
      · have : j / k = (j - k) / k + 1 := by
          rw [← Nat.add_div_right _ hk, Nat.sub_add_cancel hj]
        rw [this]; exact h1
      · rw [Nat.mod_eq_sub_mod hj]; exact h2
end
end E
end Go.Proofs.Ytmdjgejahnmfmaf
