/- Several texts in one: CmM, ChkI, CmN, BeM, EvM, LiM, EvN. -/
import Derived.Test.YtmplkogkphmmjafGreatJ01
/- Plain mathematics of instructions: those of a program; how many numbers are on the stack ahead of each. -/
namespace Go.Proofs.YtmplkogkphmmjafGreat
set_option maxRecDepth 20000
set_option maxHeartbeats 4000000
namespace E

/-- An instruction: Op, A, B, N. -/
abbrev Is := Int × Int × Int × Int
def sizeV (vs : List VarT) (v : Int) : Int := (vs.getD v.toNat (⟨#[]⟩, 0)).2
mutual
def insE (vs : List VarT) : ET → List Is
  | .mk op v n l => insEs vs l ++ [(op, if op = 2 ∨ op = 3 then cellOf vs v else 0, if op = 3 then sizeV vs v else 0, n)]
def insEs (vs : List VarT) : List ET → List Is
  | [] => []
  | t :: r => insE vs t ++ insEs vs r
end
/-- The last one of a statement in which no others stand. -/
def lastI (vs : List VarT) (op v : Int) : Is :=
  if op = 1 then (9, cellOf vs v, 0, 0) else if op = 2 then (10, cellOf vs v, sizeV vs v, 0) else if op = 3 then (11, 0, 0, 0) else if op = 4 then (12, cellOf vs v, 0, 0) else (15, 0, 0, 0)
def whileI (i0 : Nat) (l b : List Is) : List Is := l ++ ((13, ((i0 + l.length + 1 + b.length + 1 : Nat) : Int), 0, 0) :: (b ++ [(14, ((i0 : Nat) : Int), 0, 0)]))
def ifI (i0 : Nat) (l b o : List Is) : List Is := l ++ ((13, ((i0 + l.length + 1 + b.length + 1 : Nat) : Int), 0, 0) :: (b ++ ((14, ((i0 + l.length + 1 + b.length + 1 + o.length : Nat) : Int), 0, 0) :: o)))
def eI (vs : List VarT) (op : Int) (e : ET) : List Is := if needE op then insE vs e else []
def fI (vs : List VarT) (op : Int) (f : ET) : List Is := if needF op then insE vs f else []
mutual
/-- Those of a statement that begins at i0. -/
def insS (vs : List VarT) : ST → Nat → List Is
  | .mk op v e f b o, i0 =>
    if op = 5 then whileI i0 (eI vs op e) (insSs vs b (i0 + (eI vs op e).length + 1))
    else if op = 6 then ifI i0 (eI vs op e) (insSs vs b (i0 + (eI vs op e).length + 1)) (insSs vs o (i0 + (eI vs op e).length + 1 + (insSs vs b (i0 + (eI vs op e).length + 1)).length + 1))
    else eI vs op e ++ (fI vs op f ++ [lastI vs op v])
def insSs (vs : List VarT) : List ST → Nat → List Is
  | [], _ => []
  | t :: r, i0 => insS vs t i0 ++ insSs vs r (i0 + (insS vs t i0).length)
end
/-- Those of a program. -/
def haltI : Is := (16, 0, 0, 0)
def insP (vs : List VarT) (b : List ST) : List Is := insSs vs b 0 ++ [haltI]
/-- What Make tells: instructions, or a code. -/
def makeOf (vs : List VarT) (b : List ST) : List Is := if progFault vs b = 0 then insP vs b else []

theorem insEs_append (vs : List VarT) : ∀ (a b : List ET), insEs vs (a ++ b) = insEs vs a ++ insEs vs b
  | [], b => by simp [insEs]
  | t :: r, b => by simp only [List.cons_append, insEs, insEs_append vs r b, List.append_assoc]
theorem insSs_append (vs : List VarT) : ∀ (a b : List ST) (i0 : Nat), insSs vs (a ++ b) i0 = insSs vs a i0 ++ insSs vs b (i0 + (insSs vs a i0).length)
  | [], b, i0 => by simp [insSs]
  | t :: r, b, i0 => by
    simp only [List.cons_append, insSs, insSs_append vs r b, List.append_assoc, List.length_append]
    rw [Nat.add_assoc]
theorem insEs_take (vs : List VarT) {l : List ET} {i : Nat} {t : ET} (h : l[i]? = some t) : insEs vs (l.take (i + 1)) = insEs vs (l.take i) ++ insE vs t := by
  obtain ⟨hi, rfl⟩ := List.getElem?_eq_some_iff.1 h
  rw [List.take_succ_eq_append_getElem hi, insEs_append]
  simp [insEs]
theorem insSs_take (vs : List VarT) {l : List ST} {i : Nat} {t : ST} (h : l[i]? = some t) (i0 : Nat) : insSs vs (l.take (i + 1)) i0 = insSs vs (l.take i) i0 ++ insS vs t (i0 + (insSs vs (l.take i) i0).length) := by
  obtain ⟨hi, rfl⟩ := List.getElem?_eq_some_iff.1 h
  rw [List.take_succ_eq_append_getElem hi, insSs_append]
  simp [insSs]

/-! ### How many there are -/
mutual
theorem insE_len (vs : List VarT) : ∀ (t : ET), (insE vs t).length = szE t
  | .mk op v n l => by simp [insE, szE, insEs_len vs l]; omega
theorem insEs_len (vs : List VarT) : ∀ (l : List ET), (insEs vs l).length = szEs l
  | [] => by simp [insEs, szEs]
  | t :: r => by simp [insEs, szEs, insE_len vs t, insEs_len vs r]
end
theorem eI_len (vs : List VarT) (op : Int) (e : ET) : (eI vs op e).length ≤ szE e := by
  unfold eI
  split
  · rw [insE_len]; exact Nat.le_refl _
  · simp
theorem fI_len (vs : List VarT) (op : Int) (f : ET) : (fI vs op f).length ≤ szE f := by
  unfold fI
  split
  · rw [insE_len]; exact Nat.le_refl _
  · simp
mutual
theorem insS_len (vs : List VarT) : ∀ (t : ST) (i0 : Nat), (insS vs t i0).length ≤ 2 * szS t
  | .mk op v e f b o, i0 => by
    have h1 := eI_len vs op e
    have h2 := fI_len vs op f
    have h3 := insSs_len vs b (i0 + (eI vs op e).length + 1)
    have h4 := insSs_len vs o (i0 + (eI vs op e).length + 1 + (insSs vs b (i0 + (eI vs op e).length + 1)).length + 1)
    simp only [insS, szS]
    split
    · simp [whileI]; omega
    · split
      · simp [ifI]; omega
      · simp; omega
theorem insSs_len (vs : List VarT) : ∀ (l : List ST) (i0 : Nat), (insSs vs l i0).length ≤ 2 * szSs l
  | [], _ => by simp [insSs, szSs]
  | t :: r, i0 => by
    have h1 := insS_len vs t i0
    have h2 := insSs_len vs r (i0 + (insS vs t i0).length)
    simp only [insSs, szSs, List.length_append]
    omega
end

/-! ### The stack -/
def popI (op : Int) : Nat := if op = 3 ∨ op = 9 ∨ op = 11 ∨ op = 13 then 1 else if (4 ≤ op ∧ op ≤ 8) ∨ op = 10 then 2 else 0
def pushI (op : Int) : Nat := if 1 ≤ op ∧ op ≤ 8 then 1 else 0
/-- An instruction may stand where so many numbers are on the stack. -/
structure OkI (cells : Int) (n : Nat) (x : Is) : Prop where
  pop : popI x.1 ≤ n
  room : n - popI x.1 + pushI x.1 ≤ 24
  jump : x.1 = 13 ∨ x.1 = 14 → n - popI x.1 + pushI x.1 = 0
  halt : x.1 ≠ 16
  cell : x.1 = 2 ∨ x.1 = 9 ∨ x.1 = 12 → 0 ≤ x.2.1 ∧ x.2.1 < cells
  many : x.1 = 3 ∨ x.1 = 10 → 0 ≤ x.2.1 ∧ 1 ≤ x.2.2.1 ∧ x.2.1 + x.2.2.1 ≤ cells
/-- From n numbers on the stack these instructions go to m. -/
inductive Sim (cells : Int) : Nat → List Is → Nat → Prop
  | nil (n : Nat) : Sim cells n [] n
  | cons {n m : Nat} {x : Is} {r : List Is} (h : OkI cells n x) (hr : Sim cells (n - popI x.1 + pushI x.1) r m) : Sim cells n (x :: r) m
theorem Sim.app {c : Int} {n m k : Nat} {a b : List Is} (h : Sim c n a m) (h' : Sim c m b k) : Sim c n (a ++ b) k := by
  induction h with
  | nil => exact h'
  | cons h _ ih => exact .cons h (ih h')
theorem Sim.one {c : Int} {n : Nat} {x : Is} (h : OkI c n x) : Sim c n [x] (n - popI x.1 + pushI x.1) := .cons h (.nil _)
theorem Sim.one' {c : Int} {n m : Nat} {x : Is} (h : OkI c n x) (hm : n - popI x.1 + pushI x.1 = m) : Sim c n [x] m := hm ▸ Sim.one h
theorem Sim.det {c : Int} {n m m' : Nat} {a : List Is} (h : Sim c n a m) (h' : Sim c n a m') : m = m' := by
  induction h with
  | nil => cases h'; rfl
  | cons _ _ ih => cases h' with | cons _ h2 => exact ih h2
/-- At each place so many. -/
theorem Sim.at {c : Int} {n m : Nat} {a : List Is} (h : Sim c n a m) : ∀ (i : Nat), i ≤ a.length → ∃ k, Sim c n (a.take i) k ∧ ∀ x, a[i]? = some x → OkI c k x ∧ Sim c n (a.take (i + 1)) (k - popI x.1 + pushI x.1) := by
  induction h with
  | nil n => intro i hi; exact ⟨n, by simp only [List.take_nil]; exact .nil n, fun x hx => by simp at hx⟩
  | @cons n m x r hx hr ih =>
    intro i hi
    cases i with
    | zero => exact ⟨n, .nil n, fun y hy => by simp at hy; subst hy; exact ⟨hx, by simp only [List.take_succ_cons, List.take_zero]; exact Sim.one hx⟩⟩
    | succ i =>
      obtain ⟨k, h1, h2⟩ := ih i (by simpa using hi)
      exact ⟨k, .cons hx h1, fun y hy => by
        obtain ⟨h3, h4⟩ := h2 y (by simpa using hy)
        exact ⟨h3, .cons hx h4⟩⟩

/-! ### Cells -/
def Big (vs : List VarT) : Prop := ∀ x ∈ vs, 1 ≤ x.2
theorem sumV_big : ∀ {vs : List VarT}, Big vs → 0 ≤ sumV vs
  | [], _ => by simp [sumV]
  | x :: r, h => by
    have h1 := h x (by simp)
    have h2 := sumV_big (vs := r) fun y hy => h y (by simp [hy])
    simp only [sumV, List.map_cons, List.sum_cons] at h2 ⊢
    omega
theorem cell_nat : ∀ (vs : List VarT), Big vs → ∀ (k : Nat), k < vs.length → 0 ≤ sumV (vs.take k) ∧ 1 ≤ (vs.getD k (⟨#[]⟩, 0)).2 ∧ sumV (vs.take k) + (vs.getD k (⟨#[]⟩, 0)).2 ≤ sumV vs
  | [], _, k, hk => by simp at hk
  | x :: r, h, 0, _ => by
    have h1 := h x (by simp)
    have h2 := sumV_big (vs := r) fun y hy => h y (by simp [hy])
    simp only [sumV, List.take_zero, List.map_nil, List.sum_nil, List.map_cons, List.sum_cons, List.getD_cons_zero] at h2 ⊢
    omega
  | x :: r, h, k + 1, hk => by
    have h1 := h x (by simp)
    have ih := cell_nat r (fun y hy => h y (by simp [hy])) k (by simpa using hk)
    simp only [sumV, List.take_succ_cons, List.map_cons, List.sum_cons, List.getD_cons_succ] at ih ⊢
    omega
theorem cell_in {vs : List VarT} (h : Big vs) {v : Int} (hv : v.toNat < vs.length) : 0 ≤ cellOf vs v ∧ 1 ≤ sizeV vs v ∧ cellOf vs v + sizeV vs v ≤ sumV vs := cell_nat vs h _ hv
end E
end Go.Proofs.YtmplkogkphmmjafGreat

/- Plain mathematics of programs: what a check tells of their parts. -/
namespace Go.Proofs.YtmplkogkphmmjafGreat
set_option maxRecDepth 20000
set_option maxHeartbeats 4000000
namespace E

def zeroT : ET := .mk 0 0 0 []
/-! ### What a check tells -/
theorem chkE_inv {nv : Nat} {op v n : Int} {l : List ET} {d k k' : Nat} (h : chkE nv (.mk op v n l) d k = .ok k') : d ≤ 12 ∧ ownE nv op v n l.length = 0 ∧ ∃ k1, chkEs nv l (d + 1) k1 = .ok k' := by
  simp only [chkE] at h
  obtain ⟨k1, h1, h2⟩ := nextK_ok h
  split at h2
  · cases h2
  · rename_i h3
    exact ⟨(headK_ok h1).2.1, by simpa using h3, k1, h2⟩
theorem chkEs_inv {nv : Nat} {t : ET} {r : List ET} {d k k' : Nat} (h : chkEs nv (t :: r) d k = .ok k') : (∃ k1, chkE nv t d k = .ok k1) ∧ ∃ k1, chkEs nv r d k1 = .ok k' := by
  simp only [chkEs] at h
  obtain ⟨k1, h1, h2⟩ := nextK_ok h
  exact ⟨⟨k1, h1⟩, k1, h2⟩
theorem chkS_inv {nv : Nat} {op v : Int} {e f : ET} {b o : List ST} {d k k' : Nat} (h : chkS nv (.mk op v e f b o) d k = .ok k') : d ≤ 12 ∧ ownS nv op v e f b.length o.length = 0 ∧
    (needE op = true → ∃ k1 k2, chkE nv e (d + 1) k1 = .ok k2) ∧ (needF op = true → ∃ k1 k2, chkE nv f (d + 1) k1 = .ok k2) ∧ (∃ k1 k2, chkSs nv b (d + 1) k1 = .ok k2) ∧ ∃ k1 k2, chkSs nv o (d + 1) k1 = .ok k2 := by
  simp only [chkS] at h
  obtain ⟨k1, h1, h2⟩ := nextK_ok h
  split at h2
  · cases h2
  · rename_i h3
    obtain ⟨k2, h4, h5⟩ := nextK_ok h2
    obtain ⟨k3, h6, h7⟩ := nextK_ok h5
    obtain ⟨k4, h8, h9⟩ := nextK_ok h7
    refine ⟨(headK_ok h1).2.1, by simpa using h3, fun he => ⟨k1, k2, ?_⟩, fun hf => ⟨k2, k3, ?_⟩, ⟨_, _, h8⟩, _, _, h9⟩
    · rw [if_pos he] at h4; exact h4
    · rw [if_pos hf] at h6; exact h6
theorem chkSs_inv {nv : Nat} {t : ST} {r : List ST} {d k k' : Nat} (h : chkSs nv (t :: r) d k = .ok k') : (∃ k1, chkS nv t d k = .ok k1) ∧ ∃ k1, chkSs nv r d k1 = .ok k' := by
  simp only [chkSs] at h
  obtain ⟨k1, h1, h2⟩ := nextK_ok h
  exact ⟨⟨k1, h1⟩, k1, h2⟩
theorem varK_in {nv : Nat} {v : Int} (h : varK nv v true = 0) : 0 ≤ v ∧ v.toNat < nv := by
  unfold varK at h
  rw [if_pos rfl] at h
  split at h
  · cases h
  · omega
theorem varK_no {nv : Nat} {v : Int} (h : varK nv v false = 0) : v = 0 := by
  unfold varK at h
  rw [if_neg (by decide)] at h
  split at h
  · cases h
  · omega
theorem ownE_inv {nv : Nat} {op v n : Int} {len : Nat} (h : ownE nv op v n len = 0) : 1 ≤ op ∧ op ≤ 8 ∧ partsOf op = (len : Int) ∧ (op ≠ 1 → n = 0) ∧ (op = 2 ∨ op = 3 → 0 ≤ v ∧ v.toNat < nv) ∧ (¬ (op = 2 ∨ op = 3) → v = 0) := by
  unfold ownE at h
  split at h
  · cases h
  · rename_i h1
    split at h
    · cases h
    · rename_i h2
      split at h
      · cases h
      · rename_i h3
        have hop : 1 ≤ op ∧ op ≤ 8 := by
          unfold partsOf at h1
          split at h1
          · omega
          · split at h1
            · omega
            · split at h1 <;> omega
        refine ⟨hop.1, hop.2, by simpa using h2, fun h4 => ?_, fun h4 => ?_, fun h4 => ?_⟩
        · by_cases hn : n = 0
          · exact hn
          · exact absurd ⟨h4, hn⟩ h3
        · have e : (op == 2 || op == 3) = true := by simpa using h4
          rw [e] at h
          exact varK_in h
        · have e : (op == 2 || op == 3) = false := by
            cases hb : (op == 2 || op == 3) with
            | false => rfl
            | true => exact absurd (by simpa using hb) h4
          rw [e] at h
          exact varK_no h
theorem zeroT_eq {t : ET} (h : zeroE t = true) : t = zeroT := by
  obtain ⟨op, v, n, l⟩ := t
  simp only [zeroE, Bool.and_eq_true, beq_iff_eq, List.isEmpty_iff] at h
  obtain ⟨⟨⟨rfl, rfl⟩, rfl⟩, rfl⟩ := h
  rfl
theorem ownS_inv {nv : Nat} {op v : Int} {e f : ET} {lb lo : Nat} (h : ownS nv op v e f lb lo = 0) : 1 ≤ op ∧ op ≤ 7 ∧ (needE op = false → e = zeroT) ∧ (needF op = false → f = zeroT) ∧ (needB op = false → lb = 0) ∧ (needO op = false → lo = 0) ∧
    (needV op = true → 0 ≤ v ∧ v.toNat < nv) ∧ (needV op = false → v = 0) := by
  unfold ownS at h
  split at h
  · cases h
  · rename_i h1
    split at h
    · cases h
    · rename_i h2
      split at h
      · cases h
      · rename_i h3
        simp only [Bool.or_eq_true, Bool.and_eq_true, Bool.not_eq_true', not_or, not_and, Bool.not_eq_false] at h2
        simp only [Bool.or_eq_true, Bool.and_eq_true, Bool.not_eq_true', not_or, not_and, decide_eq_true_eq] at h3
        refine ⟨by omega, by omega, fun h4 => zeroT_eq (h2.1 h4), fun h4 => zeroT_eq (h2.2 h4), fun h4 => by have := h3.1 h4; omega, fun h4 => by have := h3.2 h4; omega, fun h4 => ?_, fun h4 => ?_⟩
        · rw [h4] at h; exact varK_in h
        · rw [h4] at h; exact varK_no h
end E
end Go.Proofs.YtmplkogkphmmjafGreat

/- Plain mathematics of instructions, second part: the stack is enough; jumps go where none is on it. -/
namespace Go.Proofs.YtmplkogkphmmjafGreat
set_option maxRecDepth 20000
set_option maxHeartbeats 4000000
namespace E

section
variable {c A B : Int}
theorem ok_else (c A : Int) : OkI c 1 (13, A, 0, 0) := ⟨by show popI 13 ≤ 1; decide, by show 1 - popI 13 + pushI 13 ≤ 24; decide, fun _ => by show 1 - popI 13 + pushI 13 = 0; decide, by show (13 : Int) ≠ 16; decide, fun hc => absurd hc (by show ¬ ((13 : Int) = 2 ∨ (13 : Int) = 9 ∨ (13 : Int) = 12); decide), fun hc => absurd hc (by show ¬ ((13 : Int) = 3 ∨ (13 : Int) = 10); decide)⟩
theorem ok_jump (c A : Int) : OkI c 0 (14, A, 0, 0) := ⟨by show popI 14 ≤ 0; decide, by show 0 - popI 14 + pushI 14 ≤ 24; decide, fun _ => by show 0 - popI 14 + pushI 14 = 0; decide, by show (14 : Int) ≠ 16; decide, fun hc => absurd hc (by show ¬ ((14 : Int) = 2 ∨ (14 : Int) = 9 ∨ (14 : Int) = 12); decide), fun hc => absurd hc (by show ¬ ((14 : Int) = 3 ∨ (14 : Int) = 10); decide)⟩
theorem ok_set (h0 : 0 ≤ A) (h1 : A < c) : OkI c 1 (9, A, 0, 0) := ⟨by show popI 9 ≤ 1; decide, by show 1 - popI 9 + pushI 9 ≤ 24; decide, fun hc => absurd hc (by show ¬ ((9 : Int) = 13 ∨ (9 : Int) = 14); decide), by show (9 : Int) ≠ 16; decide, fun _ => ⟨h0, h1⟩, fun hc => absurd hc (by show ¬ ((9 : Int) = 3 ∨ (9 : Int) = 10); decide)⟩
theorem ok_read (h0 : 0 ≤ A) (h1 : A < c) : OkI c 0 (12, A, 0, 0) := ⟨by show popI 12 ≤ 0; decide, by show 0 - popI 12 + pushI 12 ≤ 24; decide, fun hc => absurd hc (by show ¬ ((12 : Int) = 13 ∨ (12 : Int) = 14); decide), by show (12 : Int) ≠ 16; decide, fun _ => ⟨h0, h1⟩, fun hc => absurd hc (by show ¬ ((12 : Int) = 3 ∨ (12 : Int) = 10); decide)⟩
theorem ok_put (h0 : 0 ≤ A) (h1 : 1 ≤ B) (h2 : A + B ≤ c) : OkI c 2 (10, A, B, 0) := ⟨by show popI 10 ≤ 2; decide, by show 2 - popI 10 + pushI 10 ≤ 24; decide, fun hc => absurd hc (by show ¬ ((10 : Int) = 13 ∨ (10 : Int) = 14); decide), by show (10 : Int) ≠ 16; decide, fun hc => absurd hc (by show ¬ ((10 : Int) = 2 ∨ (10 : Int) = 9 ∨ (10 : Int) = 12); decide), fun _ => ⟨h0, h1, h2⟩⟩
end
section
variable {vs : List VarT}
theorem parts_le {op : Int} {len : Nat} (h : partsOf op = (len : Int)) : len ≤ 2 ∧ (op = 1 ∨ op = 2 → len = 0) ∧ (op = 3 → len = 1) ∧ (4 ≤ op → len = 2) := by
  unfold partsOf at h
  split at h
  · omega
  · split at h
    · omega
    · split at h <;> omega
mutual
theorem sim_E (hB : Big vs) : ∀ (t : ET) {d k k' : Nat}, chkE vs.length t d k = .ok k' → ∀ (n : Nat), n + (13 - d) ≤ 24 → Sim (sumV vs) n (insE vs t) (n + 1)
  | .mk op v m l, d, k, k', h, n, hn => by
    obtain ⟨hd, h1, k1, h2⟩ := chkE_inv h
    obtain ⟨a1, a2, a3, _, a5, _⟩ := ownE_inv h1
    obtain ⟨p1, p2, p3, p4⟩ := parts_le a3
    have ih := sim_Es hB l h2 n (by omega)
    simp only [insE]
    refine ih.app ?_
    have hop : op = 1 ∨ op = 2 ∨ op = 3 ∨ (4 ≤ op ∧ op ≤ 8) := by omega
    have hpop : popI op = l.length := by
      unfold popI
      split
      · rename_i hc
        have : op = 3 := by omega
        rw [p3 this]
      · split
        · rename_i hc
          rw [p4 (by omega)]
        · rw [p2 (by omega)]
    have hpush : pushI op = 1 := by
      unfold pushI
      rw [if_pos (by omega)]
    refine Sim.one' ⟨?_, ?_, fun hj => ?_, ?_, fun hc => ?_, fun hc => ?_⟩ ?_
    · show popI op ≤ _; omega
    · show n + l.length - popI op + pushI op ≤ 24
      have : 1 ≤ 13 - d := by omega
      omega
    · exact absurd hj (by simp only; omega)
    · show op ≠ 16; omega
    · have h2 : op = 2 := by simp only at hc; omega
      obtain ⟨c1, c2, c3⟩ := cell_in hB (a5 (.inl h2)).2
      simp only
      rw [if_pos (.inl h2)]
      omega
    · have h3 : op = 3 := by simp only at hc; omega
      obtain ⟨c1, c2, c3⟩ := cell_in hB (a5 (.inr h3)).2
      simp only
      rw [if_pos (.inr h3), if_pos h3]
      omega
    · show n + l.length - popI op + pushI op = n + 1; omega
theorem sim_Es (hB : Big vs) : ∀ (l : List ET) {d k k' : Nat}, chkEs vs.length l d k = .ok k' → ∀ (n : Nat), n + l.length + (13 - d) ≤ 25 → Sim (sumV vs) n (insEs vs l) (n + l.length)
  | [], _, _, _, _, n, _ => by simp only [insEs, List.length_nil, Nat.add_zero]; exact .nil n
  | t :: r, d, k, k', h, n, hn => by
    obtain ⟨⟨k1, h1⟩, k2, h2⟩ := chkEs_inv h
    simp only [List.length_cons] at hn
    have i1 := sim_E hB t h1 n (by omega)
    have i2 := sim_Es hB r h2 (n + 1) (by omega)
    simp only [insEs, List.length_cons]
    have e : n + (r.length + 1) = n + 1 + r.length := by omega
    rw [e]
    exact i1.app i2
end
theorem sim_eI (hB : Big vs) {op : Int} {e : ET} {d k k' : Nat} (hd : needE op = true → chkE vs.length e (d + 1) k = .ok k') : Sim (sumV vs) 0 (eI vs op e) (if needE op then 1 else 0) := by
  unfold eI
  cases hn : needE op with
  | false => exact .nil 0
  | true => exact sim_E hB e (hd hn) 0 (by omega)

mutual
theorem sim_S (hB : Big vs) : ∀ (t : ST) {d k k' : Nat}, chkS vs.length t d k = .ok k' → ∀ (i0 : Nat), Sim (sumV vs) 0 (insS vs t i0) 0
  | .mk op v e f b o, d, k, k', h, i0 => by
    obtain ⟨hd, h1, h2, h3, ⟨k1, k2, h4⟩, k3, k4, h5⟩ := chkS_inv h
    obtain ⟨a1, a2, _, _, _, _, a7, _⟩ := ownS_inv h1
    have se : Sim (sumV vs) 0 (eI vs op e) (if needE op then 1 else 0) := by
      unfold eI
      cases hn : needE op with
      | false => exact .nil 0
      | true =>
        obtain ⟨_, _, hc⟩ := h2 hn
        exact sim_E hB e hc 0 (by omega)
    have sb := fun i => sim_Ss hB b h4 i
    have so := fun i => sim_Ss hB o h5 i
    simp only [insS]
    split
    · rename_i h6
      subst h6
      have se' : Sim (sumV vs) 0 (eI vs 5 e) 1 := se
      unfold whileI
      exact se'.app (.cons (ok_else _ _) ((sb _).app (Sim.one' (ok_jump _ _) rfl)))
    · split
      · rename_i h6
        subst h6
        have se' : Sim (sumV vs) 0 (eI vs 6 e) 1 := se
        unfold ifI
        exact se'.app (.cons (ok_else _ _) ((sb _).app (.cons (ok_jump _ _) (so _))))
      · have hop : op = 1 ∨ op = 2 ∨ op = 3 ∨ op = 4 ∨ op = 7 := by omega
        rcases hop with rfl | rfl | rfl | rfl | rfl
        · obtain ⟨c1, c2, c3⟩ := cell_in hB (a7 rfl).2
          have se' : Sim (sumV vs) 0 (eI vs 1 e) 1 := se
          refine se'.app (Sim.one' (ok_set c1 (by omega)) rfl)
        · obtain ⟨c1, c2, c3⟩ := cell_in hB (a7 rfl).2
          have se' : Sim (sumV vs) 0 (eI vs 2 e) 1 := se
          obtain ⟨_, _, hc⟩ := h3 rfl
          have sf : Sim (sumV vs) 1 (fI vs 2 f) 2 := sim_E hB f hc 1 (by omega)
          refine se'.app (sf.app (Sim.one' (ok_put c1 c2 c3) rfl))
        · have se' : Sim (sumV vs) 0 (eI vs 3 e) 1 := se
          refine se'.app (Sim.one' (x := (11, 0, 0, 0)) ⟨by decide, by decide, fun hc => absurd hc (by decide), by decide, fun hc => absurd hc (by decide), fun hc => absurd hc (by decide)⟩ (by decide))
        · obtain ⟨c1, c2, c3⟩ := cell_in hB (a7 rfl).2
          have se' : Sim (sumV vs) 0 (eI vs 4 e) 0 := se
          refine se'.app (Sim.one' (ok_read c1 (by omega)) rfl)
        · have se' : Sim (sumV vs) 0 (eI vs 7 e) 0 := se
          refine se'.app (Sim.one' (x := (15, 0, 0, 0)) ⟨by decide, by decide, fun hc => absurd hc (by decide), by decide, fun hc => absurd hc (by decide), fun hc => absurd hc (by decide)⟩ (by decide))
theorem sim_Ss (hB : Big vs) : ∀ (l : List ST) {d k k' : Nat}, chkSs vs.length l d k = .ok k' → ∀ (i0 : Nat), Sim (sumV vs) 0 (insSs vs l i0) 0
  | [], _, _, _, _, _ => .nil 0
  | t :: r, d, k, k', h, i0 => by
    obtain ⟨⟨k1, h1⟩, k2, h2⟩ := chkSs_inv h
    exact (sim_S hB t h1 i0).app (sim_Ss hB r h2 _)
end

/-- A jump of these goes to a place of these, or behind them, where none is on the stack. -/
def Jmp (c : Int) (i0 : Nat) (l : List Is) (x : Is) : Prop := ∃ k : Nat, x.2.1 = ((i0 + k : Nat) : Int) ∧ k ≤ l.length ∧ Sim c 0 (l.take k) 0
def Jmps (c : Int) (i0 : Nat) (l : List Is) : Prop := ∀ x ∈ l, x.1 = 13 ∨ x.1 = 14 → Jmp c i0 l x
theorem Jmp.right {c : Int} {i0 : Nat} {a b : List Is} {x : Is} (h : Jmp c i0 a x) : Jmp c i0 (a ++ b) x := by
  obtain ⟨k, h1, h2, h3⟩ := h
  exact ⟨k, h1, by simp; omega, by rw [List.take_append_of_le_length h2]; exact h3⟩
theorem Jmp.left {c : Int} {i0 : Nat} {a b : List Is} {x : Is} (ha : Sim c 0 a 0) (h : Jmp c (i0 + a.length) b x) : Jmp c i0 (a ++ b) x := by
  obtain ⟨k, h1, h2, h3⟩ := h
  refine ⟨a.length + k, by rw [h1]; congr 1; omega, by simp; omega, ?_⟩
  rw [List.take_append, List.take_of_length_le (by omega)]
  have e : a.length + k - a.length = k := by omega
  rw [e]
  exact ha.app h3
theorem Jmps.app {c : Int} {i0 : Nat} {a b : List Is} (ha : Sim c 0 a 0) (h : Jmps c i0 a) (h' : Jmps c (i0 + a.length) b) : Jmps c i0 (a ++ b) := fun x hx hj => by
  rcases List.mem_append.1 hx with hx | hx
  · exact (h x hx hj).right
  · exact (h' x hx hj).left ha
mutual
theorem noJ_E : ∀ (t : ET) {d k k' : Nat}, chkE vs.length t d k = .ok k' → ∀ x ∈ insE vs t, x.1 ≤ 8
  | .mk op v m l, d, k, k', h, x, hx => by
    obtain ⟨hd, h1, k1, h2⟩ := chkE_inv h
    obtain ⟨a1, a2, _⟩ := ownE_inv h1
    simp only [insE, List.mem_append, List.mem_singleton] at hx
    rcases hx with hx | rfl
    · exact noJ_Es l h2 x hx
    · exact a2
theorem noJ_Es : ∀ (l : List ET) {d k k' : Nat}, chkEs vs.length l d k = .ok k' → ∀ x ∈ insEs vs l, x.1 ≤ 8
  | [], _, _, _, _, x, hx => by simp [insEs] at hx
  | t :: r, d, k, k', h, x, hx => by
    obtain ⟨⟨k1, h1⟩, k2, h2⟩ := chkEs_inv h
    simp only [insEs, List.mem_append] at hx
    rcases hx with hx | hx
    · exact noJ_E t h1 x hx
    · exact noJ_Es r h2 x hx
end
mutual
theorem jmp_S (hB : Big vs) : ∀ (t : ST) {d k k' : Nat}, chkS vs.length t d k = .ok k' → ∀ (i0 : Nat), Jmps (sumV vs) i0 (insS vs t i0)
  | .mk op v e f b o, d, k, k', h, i0 => by
    have hsim := sim_S hB (.mk op v e f b o) h i0
    obtain ⟨hd, h1, h2, h3, ⟨k1, k2, h4⟩, k3, k4, h5⟩ := chkS_inv h
    obtain ⟨a1, a2, _, _, _, _, a7, _⟩ := ownS_inv h1
    have ne : ∀ x ∈ eI vs op e, x.1 ≤ 8 := by
      unfold eI
      split
      · rename_i hn
        obtain ⟨_, _, hc⟩ := h2 hn
        exact noJ_E e hc
      · simp
    have nf : ∀ x ∈ fI vs op f, x.1 ≤ 8 := by
      unfold fI
      split
      · rename_i hn
        obtain ⟨_, _, hc⟩ := h3 hn
        exact noJ_E f hc
      · simp
    have sb := fun i => sim_Ss hB b h4 i
    have so := fun i => sim_Ss hB o h5 i
    have jb := fun i => jmp_Ss hB b h4 i
    have jo := fun i => jmp_Ss hB o h5 i
    have whole : Jmp (sumV vs) i0 (insS vs (.mk op v e f b o) i0) (14, ((i0 + (insS vs (.mk op v e f b o) i0).length : Nat) : Int), 0, 0) := ⟨_, rfl, Nat.le_refl _, by rw [List.take_length]; exact hsim⟩
    have begin0 : ∀ l, Jmp (sumV vs) i0 l (14, ((i0 : Nat) : Int), 0, 0) := fun l => ⟨0, by simp, by omega, by simp only [List.take_zero]; exact .nil 0⟩
    simp only [insS] at hsim whole ⊢
    split
    · rename_i h6
      subst h6
      rw [if_pos rfl] at hsim whole
      obtain ⟨E, hE⟩ : ∃ E, E = eI vs 5 e := ⟨_, rfl⟩
      rw [← hE] at hsim whole ne ⊢
      obtain ⟨X, hX⟩ : ∃ X, X = insSs vs b (i0 + E.length + 1) := ⟨_, rfl⟩
      have sX := sb (i0 + E.length + 1)
      have jX := jb (i0 + E.length + 1)
      rw [← hX] at hsim whole sX jX ⊢
      have head0 : Sim (sumV vs) 0 (E ++ [(13, ((i0 + E.length + 1 + X.length + 1 : Nat) : Int), 0, 0)]) 0 := by
        have se' : Sim (sumV vs) 0 E 1 := by
          rw [hE]
          unfold eI
          obtain ⟨_, _, hc⟩ := h2 rfl
          exact sim_E hB e hc 0 (by omega)
        exact se'.app (Sim.one' (ok_else _ _) rfl)
      have ew : whileI i0 E X = (E ++ [(13, ((i0 + E.length + 1 + X.length + 1 : Nat) : Int), 0, 0)]) ++ (X ++ [(14, ((i0 : Nat) : Int), 0, 0)]) := by simp [whileI]
      have lw : (whileI i0 E X).length = E.length + 1 + X.length + 1 := by simp [whileI]; omega
      intro x hx hj
      have hx' := hx
      simp only [whileI, List.mem_append, List.mem_cons, List.not_mem_nil, or_false] at hx'
      rcases hx' with hx' | rfl | hx' | rfl
      · have := ne x hx'; omega
      · obtain ⟨q, q1, q2, q3⟩ := whole
        exact ⟨(whileI i0 E X).length, by rw [lw]; simp only; congr 1; omega, Nat.le_refl _, by rw [List.take_length]; exact hsim⟩
      · have := (jX x hx' hj).right (b := [(14, ((i0 : Nat) : Int), 0, 0)])
        rw [ew]
        refine Jmp.left head0 ?_
        have el : i0 + (E ++ [(13, ((i0 + E.length + 1 + X.length + 1 : Nat) : Int), 0, 0)] : List Is).length = i0 + E.length + 1 := by simp; omega
        rw [el]
        exact this
      · exact begin0 _
    · split
      · rename_i h5' h6
        subst h6
        rw [if_neg (by decide), if_pos rfl] at hsim whole
        obtain ⟨E, hE⟩ : ∃ E, E = eI vs 6 e := ⟨_, rfl⟩
        rw [← hE] at hsim whole ne ⊢
        obtain ⟨X, hX⟩ : ∃ X, X = insSs vs b (i0 + E.length + 1) := ⟨_, rfl⟩
        have sX := sb (i0 + E.length + 1)
        have jX := jb (i0 + E.length + 1)
        rw [← hX] at hsim whole sX jX ⊢
        obtain ⟨Y, hY⟩ : ∃ Y, Y = insSs vs o (i0 + E.length + 1 + X.length + 1) := ⟨_, rfl⟩
        have sY := so (i0 + E.length + 1 + X.length + 1)
        have jY := jo (i0 + E.length + 1 + X.length + 1)
        rw [← hY] at hsim whole sY jY ⊢
        obtain ⟨H, hH⟩ : ∃ H : List Is, H = E ++ [(13, ((i0 + E.length + 1 + X.length + 1 : Nat) : Int), 0, 0)] := ⟨_, rfl⟩
        obtain ⟨J, hJ⟩ : ∃ J : Is, J = (14, ((i0 + E.length + 1 + X.length + 1 + Y.length : Nat) : Int), 0, 0) := ⟨_, rfl⟩
        have head0 : Sim (sumV vs) 0 H 0 := by
          have se' : Sim (sumV vs) 0 E 1 := by
            rw [hE]
            unfold eI
            obtain ⟨_, _, hc⟩ := h2 rfl
            exact sim_E hB e hc 0 (by omega)
          rw [hH]
          exact se'.app (Sim.one' (ok_else _ _) rfl)
        have hHl : H.length = E.length + 1 := by rw [hH]; simp
        have sJ : Sim (sumV vs) 0 [J] 0 := by
          rw [hJ]
          exact Sim.one' (ok_jump _ _) rfl
        have ew : ifI i0 E X Y = (H ++ (X ++ [J])) ++ Y := by rw [hH, hJ]; simp [ifI]
        have lw : (ifI i0 E X Y).length = E.length + 1 + X.length + 1 + Y.length := by rw [ew]; simp [hHl]; omega
        have sHX : Sim (sumV vs) 0 (H ++ (X ++ [J])) 0 := head0.app (sX.app sJ)
        have lHX : (H ++ (X ++ [J])).length = E.length + 1 + X.length + 1 := by simp [hHl]; omega
        intro x hx hj
        have hx' := hx
        simp only [ifI, List.mem_append, List.mem_cons] at hx'
        rcases hx' with hx' | rfl | hx' | rfl | hx'
        · have := ne x hx'; omega
        · refine ⟨E.length + 1 + X.length + 1, by simp only; congr 1; omega, by omega, ?_⟩
          rw [ew, List.take_append_of_le_length (by omega), List.take_of_length_le (by omega)]
          exact sHX
        · have h7 := (jX x hx' hj).right (b := [J])
          rw [ew]
          refine Jmp.right (Jmp.left head0 ?_)
          rw [hHl]
          exact h7
        · exact ⟨(ifI i0 E X Y).length, by rw [lw]; simp only; congr 1; omega, Nat.le_refl _, by rw [List.take_length]; exact hsim⟩
        · have h7 := jY x hx' hj
          rw [ew]
          refine Jmp.left sHX ?_
          rw [lHX]
          have e7 : i0 + (E.length + 1 + X.length + 1) = i0 + E.length + 1 + X.length + 1 := by omega
          rw [e7]
          exact h7
      · intro x hx hj
        simp only [List.mem_append, List.mem_singleton] at hx
        rcases hx with hx | hx | rfl
        · have := ne x hx; omega
        · have := nf x hx; omega
        · exfalso
          unfold lastI at hj
          repeat' split at hj
          all_goals simp at hj
theorem jmp_Ss (hB : Big vs) : ∀ (l : List ST) {d k k' : Nat}, chkSs vs.length l d k = .ok k' → ∀ (i0 : Nat), Jmps (sumV vs) i0 (insSs vs l i0)
  | [], _, _, _, _, _ => fun x hx => by simp [insSs] at hx
  | t :: r, d, k, k', h, i0 => by
    obtain ⟨⟨k1, h1⟩, k2, h2⟩ := chkSs_inv h
    exact Jmps.app (sim_S hB t h1 i0) (jmp_S hB t h1 i0) (jmp_Ss hB r h2 _)
end
end
end E
end Go.Proofs.YtmplkogkphmmjafGreat

/- Plain mathematics of the document's machine: what one instruction does; that it always can. -/
namespace Go.Proofs.YtmplkogkphmmjafGreat
set_option maxRecDepth 20000
set_option maxHeartbeats 4000000
namespace E

/-- All that a machine knows. -/
structure Md where
  next : Nat
  stack : List Int
  read : Nat
  out : Nat
  state : Nat
  cells : List Int
/-- What was printed; whether two things were printed at one place. -/
abbrev Pr := List Int × Bool
def putP (p : Pr) (k : Nat) (n : Int) : Pr := if k = p.1.length then (p.1 ++ [n], p.2) else if p.1[k]? = some n then p else (p.1, true)
def topS (s : List Int) : Int := s.getLastD 0
def bitI (b : Bool) : Int := if b then 1 else 0
def ariI (op z y : Int) : Int := if op = 4 then IntKind.i64.wrap (z + y) else if op = 5 then IntKind.i64.wrap (z - y) else if op = 6 then IntKind.i64.wrap (z * y) else if op = 7 then bitI (decide (z < y)) else bitI (z == y)
def cellAt (l : List Int) (k : Int) : Int := l.getD k.toNat 0
/-- One instruction. -/
def exI (inp : List Int) (x : Is) (m : Md) (p : Pr) : Md × Pr :=
  if x.1 = 1 then ({ m with next := m.next + 1, stack := m.stack ++ [x.2.2.2] }, p)
  else if x.1 = 2 then ({ m with next := m.next + 1, stack := m.stack ++ [cellAt m.cells x.2.1] }, p)
  else if x.1 = 3 then
    (if 0 ≤ topS m.stack ∧ topS m.stack < x.2.2.1 then ({ m with next := m.next + 1, stack := m.stack.dropLast ++ [cellAt m.cells (x.2.1 + topS m.stack)] }, p)
    else ({ m with next := m.next + 1, stack := m.stack.dropLast, state := 13 }, p))
  else if 4 ≤ x.1 ∧ x.1 ≤ 8 then ({ m with next := m.next + 1, stack := m.stack.dropLast.dropLast ++ [ariI x.1 (topS m.stack.dropLast) (topS m.stack)] }, p)
  else if x.1 = 9 then ({ m with next := m.next + 1, stack := m.stack.dropLast, cells := m.cells.set x.2.1.toNat (topS m.stack) }, p)
  else if x.1 = 10 then
    (if 0 ≤ topS m.stack.dropLast ∧ topS m.stack.dropLast < x.2.2.1 then ({ m with next := m.next + 1, stack := m.stack.dropLast.dropLast, cells := m.cells.set (x.2.1 + topS m.stack.dropLast).toNat (topS m.stack) }, p)
    else ({ m with next := m.next + 1, stack := m.stack.dropLast.dropLast, state := 13 }, p))
  else if x.1 = 11 then ({ m with next := m.next + 1, stack := m.stack.dropLast, out := m.out + 1 }, putP p m.out (topS m.stack))
  else if x.1 = 12 then
    (if m.read < inp.length then ({ m with next := m.next + 1, cells := m.cells.set x.2.1.toNat (inp.getD m.read 0), read := m.read + 1 }, p)
    else ({ m with next := m.next + 1, state := 14 }, p))
  else if x.1 = 13 then ({ m with next := if topS m.stack = 0 then x.2.1.toNat else m.next + 1, stack := m.stack.dropLast }, p)
  else if x.1 = 14 then ({ m with next := x.2.1.toNat }, p)
  else if x.1 = 16 then ({ m with next := m.next + 1, state := 1 }, p)
  else ({ m with next := m.next + 1 }, p)
/-- One instruction of W; nothing, if it goes on no longer. -/
def stB (W : List Is) (inp : List Int) (m : Md) (p : Pr) : Md × Pr := if m.state = 0 then exI inp (W.getD m.next (0, 0, 0, 0)) m p else (m, p)
/-- Does a commit come? -/
def comB (W : List Is) (m : Md) : Bool := decide (m.state = 0) && decide ((W.getD m.next (0, 0, 0, 0)).1 = 15)
def mind0 (c : Nat) : Md := ⟨0, [], 0, 0, 0, List.replicate c 0⟩

/-- It is in order: all that its instructions take is there. -/
structure Fit (c : Int) (Q : List Is) (m : Md) (p : Pr) : Prop where
  cells : (m.cells.length : Int) = c
  out : m.out ≤ p.1.length
  next : m.state = 0 → m.next ≤ Q.length
  sim : m.state = 0 → Sim c 0 (Q.take m.next) m.stack.length
theorem putP_len (p : Pr) (k : Nat) (n : Int) : p.1.length ≤ (putP p k n).1.length ∧ (k ≤ p.1.length → k + 1 ≤ (putP p k n).1.length) := by
  unfold putP
  split
  · simp only [List.length_append, List.length_cons, List.length_nil]; omega
  · split
    · exact ⟨Nat.le_refl _, fun h => by omega⟩
    · exact ⟨Nat.le_refl _, fun h => by show k + 1 ≤ p.1.length; omega⟩
theorem fit0 {c : Nat} {Q : List Is} (p : Pr) : Fit c Q (mind0 c) p := ⟨by simp [mind0], by simp [mind0], fun _ => by simp [mind0], fun _ => by simp only [mind0, List.take_zero]; exact .nil 0⟩

/-- What stands at a place where so many are on the stack: an instruction that may stand there, or IHalt. -/
def FitX (c : Int) (Q : List Is) (n k : Nat) (x : Is) : Prop := (n < Q.length ∧ Q[n]? = some x ∧ OkI c k x ∧ Sim c 0 (Q.take (n + 1)) (k - popI x.1 + pushI x.1)) ∨ (n = Q.length ∧ x = haltI ∧ k = 0)
theorem at_halt {c : Int} {Q : List Is} (hQ : Sim c 0 Q 0) {n k : Nat} (hn : n ≤ Q.length) (hs : Sim c 0 (Q.take n) k) : ∃ x, (Q ++ [haltI])[n]? = some x ∧ FitX c Q n k x := by
  by_cases hi : n < Q.length
  · refine ⟨Q[n], by rw [List.getElem?_append_left hi, List.getElem?_eq_getElem hi], ?_⟩
    obtain ⟨k', h1, h2⟩ := hQ.at n (by omega)
    have := h1.det hs
    subst this
    obtain ⟨h3, h4⟩ := h2 _ (List.getElem?_eq_getElem hi)
    exact .inl ⟨hi, List.getElem?_eq_getElem hi, h3, h4⟩
  · have : n = Q.length := by omega
    subst this
    rw [List.take_length] at hs
    exact ⟨haltI, by rw [List.getElem?_append_right (Nat.le_refl _), Nat.sub_self]; rfl, .inr ⟨rfl, rfl, hs.det hQ⟩⟩
theorem popI_num (op : Int) : (op = 1 ∨ op = 2 → popI op = 0 ∧ pushI op = 1) ∧ (op = 3 → popI op = 1 ∧ pushI op = 1) ∧ (4 ≤ op ∧ op ≤ 8 → popI op = 2 ∧ pushI op = 1) ∧ (op = 9 ∨ op = 11 ∨ op = 13 → popI op = 1 ∧ pushI op = 0) ∧ (op = 10 → popI op = 2 ∧ pushI op = 0) ∧
    (op < 1 ∨ op = 12 ∨ 13 < op → popI op = 0 ∧ pushI op = 0) := by
  unfold popI pushI
  refine ⟨fun h => ?_, fun h => ?_, fun h => ?_, fun h => ?_, fun h => ?_, fun h => ?_⟩
  · rw [if_neg (by omega), if_neg (by omega), if_pos (by omega)]; exact ⟨rfl, rfl⟩
  · rw [if_pos (by omega), if_pos (by omega)]; exact ⟨rfl, rfl⟩
  · rw [if_neg (by omega), if_pos (by omega), if_pos (by omega)]; exact ⟨rfl, rfl⟩
  · rw [if_pos (by omega), if_neg (by omega)]; exact ⟨rfl, rfl⟩
  · rw [if_neg (by omega), if_pos (by omega), if_neg (by omega)]; exact ⟨rfl, rfl⟩
  · rw [if_neg (by omega), if_neg (by omega), if_neg (by omega)]; exact ⟨rfl, rfl⟩

theorem Fit.step {c : Int} {Q : List Is} (hQ : Sim c 0 Q 0) (hJ : Jmps c 0 Q) {inp : List Int} {m : Md} {p : Pr} (h : Fit c Q m p) : Fit c Q (stB (Q ++ [haltI]) inp m p).1 (stB (Q ++ [haltI]) inp m p).2 := by
  unfold stB
  by_cases hs : ¬ m.state = 0
  · rw [if_neg hs]; exact h
  replace hs : m.state = 0 := by omega
  rw [if_pos hs]
  have hn := h.next hs
  obtain ⟨x, hx, hf⟩ := at_halt hQ hn (h.sim hs)
  have hg : (Q ++ [haltI]).getD m.next (0, 0, 0, 0) = x := by rw [List.getD_eq_getElem?_getD, hx]; rfl
  rw [hg]
  have hc := h.cells
  have ho := h.out
  rcases hf with ⟨hlt, hxQ, hok, hsim⟩ | ⟨hlt, rfl, hk⟩
  · obtain ⟨op, A, B, N⟩ := x
    obtain ⟨f1, f2, f3, f4, f5, f6⟩ := hok
    simp only at f1 f2 f3 f4 f5 f6 hsim
    obtain ⟨n1, n2, n3, n4, n5, n6⟩ := popI_num op
    have one : ∀ (s : List Int) (cs : List Int) (rd : Nat) (ou : Nat) (p' : Pr), cs.length = m.cells.length → ou ≤ p'.1.length → s.length = m.stack.length - popI op + pushI op → Fit c Q { m with next := m.next + 1, stack := s, cells := cs, read := rd, out := ou } p' := fun s cs rd ou p' h1 h2 h3 =>
      ⟨by show (cs.length : Int) = c; rw [h1]; exact hc, h2, fun _ => by show m.next + 1 ≤ Q.length; omega, fun _ => by show Sim c 0 (Q.take (m.next + 1)) s.length; rw [h3]; exact hsim⟩
    have off : ∀ (s : List Int) (st : Nat), st ≠ 0 → Fit c Q { m with next := m.next + 1, stack := s, state := st } p := fun s st h1 => ⟨hc, ho, fun h2 => absurd h2 h1, fun h2 => absurd h2 h1⟩
    unfold exI
    simp only
    by_cases e1 : op = 1
    · rw [if_pos e1]
      exact one _ _ _ _ _ rfl ho (by simp; omega)
    rw [if_neg e1]
    by_cases e2 : op = 2
    · rw [if_pos e2]
      exact one _ _ _ _ _ rfl ho (by simp; omega)
    rw [if_neg e2]
    by_cases e3 : op = 3
    · rw [if_pos e3]
      split
      · exact one _ _ _ _ _ rfl ho (by simp; omega)
      · exact off _ _ (by decide)
    rw [if_neg e3]
    by_cases e4 : 4 ≤ op ∧ op ≤ 8
    · rw [if_pos e4]
      exact one _ _ _ _ _ rfl ho (by simp; omega)
    rw [if_neg e4]
    by_cases e9 : op = 9
    · rw [if_pos e9]
      exact one _ _ _ _ _ (by simp) ho (by simp; omega)
    rw [if_neg e9]
    by_cases e10 : op = 10
    · rw [if_pos e10]
      split
      · exact one _ _ _ _ _ (by simp) ho (by simp; omega)
      · exact off _ _ (by decide)
    rw [if_neg e10]
    by_cases e11 : op = 11
    · rw [if_pos e11]
      exact one _ _ _ _ _ rfl ((putP_len p m.out _).2 ho) (by simp; omega)
    rw [if_neg e11]
    by_cases e12 : op = 12
    · rw [if_pos e12]
      split
      · exact one _ _ _ _ _ (by simp) ho (by omega)
      · exact off _ _ (by decide)
    rw [if_neg e12]
    by_cases e13 : op = 13
    · rw [if_pos e13]
      obtain ⟨k, hk1, h2, h3⟩ := hJ _ (List.mem_of_getElem? hxQ) (.inl e13)
      simp only [Nat.zero_add] at hk1
      subst hk1
      have hl0 : m.stack.length - 1 = 0 := by have := f3 (.inl e13); have := n4 (by omega); omega
      by_cases ht : topS m.stack = 0
      · rw [if_pos ht]
        exact ⟨hc, ho, fun _ => by simpa using h2, fun _ => by simp only [List.length_dropLast, hl0, Int.toNat_natCast]; exact h3⟩
      · rw [if_neg ht]
        exact one _ _ _ _ _ rfl ho (by simp; omega)
    rw [if_neg e13]
    by_cases e14 : op = 14
    · rw [if_pos e14]
      obtain ⟨k, hk1, h2, h3⟩ := hJ _ (List.mem_of_getElem? hxQ) (.inr e14)
      simp only [Nat.zero_add] at hk1
      subst hk1
      have hl0 : m.stack.length = 0 := by have := f3 (.inr e14); have := n6 (by omega); omega
      exact ⟨hc, ho, fun _ => by simpa using h2, fun _ => by simp only [hl0, Int.toNat_natCast]; exact h3⟩
    rw [if_neg e14, if_neg f4]
    exact one _ _ _ _ _ rfl ho (by omega)
  · have e : exI inp haltI m p = ({ m with next := m.next + 1, state := 1 }, p) := rfl
    rw [e]
    exact ⟨hc, ho, fun h2 => absurd h2 (by show ¬ (1 = 0); decide), fun h2 => absurd h2 (by show ¬ (1 = 0); decide)⟩
end E
end Go.Proofs.YtmplkogkphmmjafGreat

/- Plain mathematics of what a program says: its expressions and statements evaluated, instruction by instruction counted; that the document's machine does just that. -/
namespace Go.Proofs.YtmplkogkphmmjafGreat
set_option maxRecDepth 20000
set_option maxHeartbeats 4000000
namespace E

/-- How far it is: instructions done, numbers read, what was printed, the cells. -/
structure Es where
  n : Nat
  read : Nat
  out : List Int
  cells : List Int
abbrev Ex (α : Type) := Except (Nat × Es) α
def bndX {α β : Type} (x : Ex α) (f : α → Ex β) : Ex β := match x with
  | .error e => .error e
  | .ok a => f a
/-- One instruction: ErrFuel, if there is none left. -/
def tick (fuel : Nat) (s : Es) : Ex Es := if s.n < fuel then .ok { s with n := s.n + 1 } else .error (13, s)
section
variable (vs : List VarT) (inp : List Int) (fuel : Nat)
/-- What an expression says of the numbers of what is in it. -/
def sayE (op v n : Int) (xs : List Int) (s : Es) : Ex (Int × Es) :=
  if op = 1 then .ok (n, s)
  else if op = 2 then .ok (cellAt s.cells (cellOf vs v), s)
  else if op = 3 then (if 0 ≤ xs.getD 0 0 ∧ xs.getD 0 0 < sizeV vs v then .ok (cellAt s.cells (cellOf vs v + xs.getD 0 0), s) else .error (11, s))
  else .ok (ariI op (xs.getD 0 0) (xs.getD 1 0), s)
mutual
def evE : ET → Es → Ex (Int × Es)
  | .mk op v n l, s => bndX (evEs l s) fun a => bndX (tick fuel a.2) fun s2 => sayE vs op v n a.1 s2
def evEs : List ET → Es → Ex (List Int × Es)
  | [], s => .ok ([], s)
  | t :: r, s => bndX (evE t s) fun a => bndX (evEs r a.2) fun c => .ok (a.1 :: c.1, c.2)
end
/-- What a statement does in which no others stand, with the numbers that its E and F say. -/
def sayS (op v x y : Int) (s : Es) : Ex Es :=
  if op = 1 then .ok { s with cells := s.cells.set (cellOf vs v).toNat x }
  else if op = 2 then (if 0 ≤ x ∧ x < sizeV vs v then .ok { s with cells := s.cells.set (cellOf vs v + x).toNat y } else .error (11, s))
  else if op = 3 then .ok { s with out := s.out ++ [x] }
  else if op = 4 then (if s.read < inp.length then .ok { s with cells := s.cells.set (cellOf vs v).toNat (inp.getD s.read 0), read := s.read + 1 } else .error (12, s))
  else .ok s
/-- As long as E is not 0, the body; g: so often at most. -/
def loopX (ce : Es → Ex (Int × Es)) (cb : Es → Ex Es) : Nat → Es → Ex Es
  | 0, s => .error (13, s)
  | g + 1, s => bndX (ce s) fun a => bndX (tick fuel a.2) fun s2 => if a.1 = 0 then .ok s2 else bndX (cb s2) fun s3 => bndX (tick fuel s3) fun s4 => loopX ce cb g s4
mutual
def evS : ST → Es → Ex Es
  | .mk op v e f b o, s =>
    if op = 5 then loopX fuel (evE vs fuel e) (evSs b) (fuel + 1) s
    else if op = 6 then bndX (evE vs fuel e s) fun a => bndX (tick fuel a.2) fun s2 => if a.1 = 0 then evSs o s2 else bndX (evSs b s2) fun s3 => tick fuel s3
    else bndX (if needE op then evE vs fuel e s else .ok (0, s)) fun a => bndX (if needF op then evE vs fuel f a.2 else .ok (0, a.2)) fun c => bndX (tick fuel c.2) fun s2 => sayS vs inp op v a.1 c.1 s2
def evSs : List ST → Es → Ex Es
  | [], s => .ok s
  | t :: r, s => bndX (evS t s) fun s1 => evSs r s1
end
/-- A program: its statements, then the end. -/
def evP (body : List ST) (s : Es) : Ex Es := bndX (evSs vs inp fuel body s) fun s1 => tick fuel s1
end
def es0 (c : Nat) : Es := ⟨0, 0, [], List.replicate c 0⟩

/-! ### The machine goes on -/
def runB (W : List Is) (inp : List Int) : Nat → Md × Pr → Md × Pr
  | 0, a => a
  | n + 1, a => runB W inp n (stB W inp a.1 a.2)
theorem runB_add (W : List Is) (inp : List Int) : ∀ (a b : Nat) (x : Md × Pr), runB W inp (a + b) x = runB W inp b (runB W inp a x)
  | 0, b, x => by simp [runB]
  | a + 1, b, x => by
    rw [Nat.succ_add]
    exact runB_add W inp a b _
/-- So many instructions, each of them done. -/
def goB (W : List Is) (inp : List Int) (n : Nat) (a b : Md × Pr) : Prop := runB W inp n a = b ∧ ∀ k < n, (runB W inp k a).1.state = 0
theorem goB_add {W : List Is} {inp : List Int} {a b : Nat} {x y z : Md × Pr} (h : goB W inp a x y) (h2 : goB W inp b y z) : goB W inp (a + b) x z := by
  refine ⟨by rw [runB_add, h.1, h2.1], fun k hk => ?_⟩
  by_cases hka : k < a
  · exact h.2 k hka
  · have e : k = a + (k - a) := by omega
    rw [e, runB_add, h.1]
    exact h2.2 _ (by omega)
/-- The machine's mind where an evaluation is so far, at a place, with so many on the stack. -/
def mdOf (i : Nat) (s : List Int) (e : Es) : Md := ⟨i, s, e.read, e.out.length, 0, e.cells⟩
/-- By as many instructions as X tells the machine comes to what X tells. -/
def Sims (W : List Is) (inp : List Int) (fuel : Nat) {α : Type} (m0 : Md) (s : Es) (X : Ex α) (st : α → Es) (tgt : α → Md → Prop) : Prop :=
  match X with
  | .ok a => s.n ≤ (st a).n ∧ (st a).n ≤ fuel ∧ ∃ m, goB W inp ((st a).n - s.n) (m0, (s.out, false)) (m, ((st a).out, false)) ∧ tgt a m
  | .error e => s.n ≤ e.2.n ∧ e.2.n ≤ fuel ∧ ∃ m, goB W inp (e.2.n - s.n) (m0, (s.out, false)) (m, (e.2.out, false)) ∧ m.cells = e.2.cells ∧ ((e.1 = 13 ∧ e.2.n = fuel ∧ m.state = 0) ∨ (e.1 ≠ 13 ∧ e.1 ≠ 0 ∧ m.state = e.1 + 2))
section
variable {W : List Is} {inp : List Int} {fuel : Nat} {α β : Type} {m0 : Md} {s : Es} {X : Ex α} {st : α → Es} {tgt : α → Md → Prop}
theorem Sims.bnd {f : α → Ex β} {st2 : β → Es} {tgt2 : β → Md → Prop} (h : Sims W inp fuel m0 s X st tgt) (h2 : ∀ a m, X = .ok a → tgt a m → s.n ≤ (st a).n → (st a).n ≤ fuel → Sims W inp fuel m (st a) (f a) st2 tgt2) : Sims W inp fuel m0 s (bndX X f) st2 tgt2 := by
  cases hX : X with
  | error e => rw [hX] at h; exact h
  | ok a =>
    rw [hX] at h
    obtain ⟨h1, h3, m, hr, ht⟩ := h
    have h4 := h2 a m hX ht h1 h3
    show Sims W inp fuel m0 s (f a) st2 tgt2
    cases hY : f a with
    | error e =>
      rw [hY] at h4
      obtain ⟨g1, g2, m', g3, g4⟩ := h4
      have en : e.2.n - s.n = ((st a).n - s.n) + (e.2.n - (st a).n) := by omega
      refine ⟨by omega, g2, m', ?_, g4⟩
      rw [en]
      exact goB_add hr g3
    | ok c =>
      rw [hY] at h4
      obtain ⟨g1, g2, m', g3, g4⟩ := h4
      have en : (st2 c).n - s.n = ((st a).n - s.n) + ((st2 c).n - (st a).n) := by omega
      refine ⟨by omega, g2, m', ?_, g4⟩
      rw [en]
      exact goB_add hr g3
theorem Sims.ok {a : α} (hst : st a = s) (hn : s.n ≤ fuel) (ht : tgt a m0) : Sims W inp fuel m0 s (.ok a) st tgt := by
  refine ⟨by rw [hst]; exact Nat.le_refl _, by rw [hst]; exact hn, m0, ?_, ht⟩
  rw [hst, Nat.sub_self]
  exact ⟨rfl, fun k hk => absurd hk (by omega)⟩
theorem Sims.mono {tgt2 : α → Md → Prop} (h : Sims W inp fuel m0 s X st tgt) (ht : ∀ a m, tgt a m → tgt2 a m) : Sims W inp fuel m0 s X st tgt2 := by
  cases X with
  | error e => exact h
  | ok a =>
    obtain ⟨h1, h2, m, h3, h4⟩ := h
    exact ⟨h1, h2, m, h3, ht a m h4⟩
/-- One instruction, and what it comes to. -/
theorem Sims.tick {f : Es → Ex β} {st2 : β → Es} {tgt2 : β → Md → Prop} {x : Is} (hx : W[m0.next]? = some x) (hs : m0.state = 0) (hc : m0.cells = s.cells) (hn : s.n ≤ fuel)
    (h : s.n + 1 ≤ fuel → match f { s with n := s.n + 1 } with
      | .ok a => (st2 a).n = s.n + 1 ∧ (exI inp x m0 (s.out, false)).2 = ((st2 a).out, false) ∧ tgt2 a (exI inp x m0 (s.out, false)).1
      | .error e => e.2.n = s.n + 1 ∧ (exI inp x m0 (s.out, false)).2 = (e.2.out, false) ∧ (exI inp x m0 (s.out, false)).1.cells = e.2.cells ∧ e.1 ≠ 13 ∧ e.1 ≠ 0 ∧ (exI inp x m0 (s.out, false)).1.state = e.1 + 2) : Sims W inp fuel m0 s (bndX (tick fuel s) f) st2 tgt2 := by
  unfold E.tick
  by_cases hlt : s.n < fuel
  · rw [if_pos hlt]
    have h1 := h (by omega)
    have hone : goB W inp 1 (m0, (s.out, false)) (exI inp x m0 (s.out, false)) := by
      refine ⟨?_, fun k hk => by have : k = 0 := by omega
                                 subst this; exact hs⟩
      have hg : W.getD m0.next (0, 0, 0, 0) = x := by rw [List.getD_eq_getElem?_getD, hx]; rfl
      show stB W inp m0 (s.out, false) = _
      unfold stB
      rw [if_pos hs, hg]
    show Sims W inp fuel m0 s (f { s with n := s.n + 1 }) st2 tgt2
    cases hf : f { s with n := s.n + 1 } with
    | ok a =>
      rw [hf] at h1
      obtain ⟨e1, e2, e3⟩ := h1
      refine ⟨by omega, by omega, (exI inp x m0 (s.out, false)).1, ?_, e3⟩
      have : (st2 a).n - s.n = 1 := by omega
      rw [this, ← e2]
      exact hone
    | error e =>
      rw [hf] at h1
      obtain ⟨e1, e2, e3, e4, e5, e6⟩ := h1
      refine ⟨by omega, by omega, (exI inp x m0 (s.out, false)).1, ?_, e3, .inr ⟨e4, e5, e6⟩⟩
      have : e.2.n - s.n = 1 := by omega
      rw [this, ← e2]
      exact hone
  · rw [if_neg hlt]
    refine ⟨Nat.le_refl _, hn, m0, ?_, hc, .inl ⟨rfl, by show s.n = fuel; omega, hs⟩⟩
    show goB W inp (s.n - s.n) _ _
    rw [Nat.sub_self]
    exact ⟨rfl, fun k hk => absurd hk (by omega)⟩
/-- One instruction that prints nothing. -/
theorem Sims.tick1 {x : Is} (hx : W[m0.next]? = some x) (hs : m0.state = 0) (hc : m0.cells = s.cells) (hn : s.n ≤ fuel) (hp : (exI inp x m0 (s.out, false)).2 = (s.out, false)) : Sims W inp fuel m0 s (E.tick fuel s) id (fun s2 m => s2 = { s with n := s.n + 1 } ∧ m = (exI inp x m0 (s.out, false)).1) := by
  have h := Sims.tick (W := W) (inp := inp) (fuel := fuel) (m0 := m0) (s := s) (f := fun s2 => Except.ok s2) (st2 := id) (tgt2 := fun s2 m => s2 = { s with n := s.n + 1 } ∧ m = (exI inp x m0 (s.out, false)).1) hx hs hc hn (fun _ => ⟨rfl, hp, rfl, rfl⟩)
  have e : bndX (E.tick fuel s) (fun s2 => Except.ok s2) = E.tick fuel s := by
    cases E.tick fuel s <;> rfl
  rw [e] at h
  exact h
end
end E
end Go.Proofs.YtmplkogkphmmjafGreat

/- Plain mathematics of a life: however it crashes, it is the life without crashes, so far; what is printed is printed once. -/
namespace Go.Proofs.YtmplkogkphmmjafGreat
set_option maxRecDepth 20000
set_option maxHeartbeats 4000000
namespace E

theorem exI_fst (inp : List Int) (x : Is) (m : Md) (p p' : Pr) : (exI inp x m p).1 = (exI inp x m p').1 := by
  simp only [exI, apply_ite Prod.fst]
theorem exI_snd (inp : List Int) (x : Is) (m : Md) (p : Pr) : (exI inp x m p).2 = if x.1 = 11 then putP p m.out (topS m.stack) else p := by
  simp only [exI, apply_ite Prod.snd, ite_self]
  repeat' split
  all_goals first
    | rfl
    | (exfalso; omega)
theorem exI_out (inp : List Int) (x : Is) (m : Md) (p : Pr) : (exI inp x m p).1.out = if x.1 = 11 then m.out + 1 else m.out := by
  simp only [exI, apply_ite Prod.fst, apply_ite Md.out, ite_self]
  repeat' split
  all_goals first
    | rfl
    | (exfalso; omega)

section
variable (W : List Is) (inp : List Int) (c : Nat)
/-- The life without crashes behind so many instructions. -/
def pu (k : Nat) : Md × Pr := runB W inp k (mind0 c, ([], false))
variable {W inp c}
theorem pu_succ (k : Nat) : pu W inp c (k + 1) = stB W inp (pu W inp c k).1 (pu W inp c k).2 := by
  unfold pu
  rw [runB_add]
  rfl
theorem pu_out : ∀ (k : Nat), (pu W inp c k).1.out = (pu W inp c k).2.1.length ∧ (pu W inp c k).2.2 = false
  | 0 => ⟨rfl, rfl⟩
  | k + 1 => by
    obtain ⟨h1, h2⟩ := pu_out k
    rw [pu_succ]
    unfold stB
    split
    · rw [exI_snd, exI_out]
      split
      · unfold putP
        rw [if_pos h1]
        simp [h1, h2]
      · exact ⟨h1, h2⟩
    · exact ⟨h1, h2⟩
theorem pu_pre1 (k : Nat) : (pu W inp c k).2.1 <+: (pu W inp c (k + 1)).2.1 := by
  rw [pu_succ]
  unfold stB
  split
  · rw [exI_snd]
    split
    · unfold putP
      rw [if_pos (pu_out k).1]
      exact List.prefix_append _ _
    · exact List.prefix_refl _
  · exact List.prefix_refl _
theorem pu_pre {a g : Nat} (h : a ≤ g) : (pu W inp c a).2.1 <+: (pu W inp c g).2.1 := by
  induction g with
  | zero =>
    have : a = 0 := by omega
    subst this
    exact List.prefix_refl _
  | succ g ih =>
    by_cases e : a = g + 1
    · subst e; exact List.prefix_refl _
    · exact (ih (by omega)).trans (pu_pre1 g)
theorem pu_idle {n : Nat} (h : (pu W inp c n).1.state ≠ 0) : ∀ (j : Nat), n ≤ j → pu W inp c j = pu W inp c n := by
  intro j hj
  induction j with
  | zero =>
    have : n = 0 := by omega
    subst this
    rfl
  | succ j ih =>
    by_cases e : n = j + 1
    · subst e; rfl
    · have := ih (by omega)
      rw [pu_succ, this]
      unfold stB
      rw [if_neg h]
/-- What was done once is done again: nothing else is printed. -/
theorem pu_again {a g : Nat} (h : a ≤ g) : stB W inp (pu W inp c a).1 (pu W inp c g).2 = ((pu W inp c (a + 1)).1, (pu W inp c (max g (a + 1))).2) := by
  by_cases e : a = g
  · subst e
    rw [show max a (a + 1) = a + 1 by omega, pu_succ]
  · have hmax : max g (a + 1) = g := by omega
    rw [hmax]
    have hp : (pu W inp c (a + 1)).2.1 <+: (pu W inp c g).2.1 := pu_pre (by omega)
    rw [pu_succ] at hp ⊢
    unfold stB at hp ⊢
    by_cases hs : (pu W inp c a).1.state = 0
    · rw [if_pos hs] at hp ⊢
      rw [if_pos hs]
      refine Prod.ext (exI_fst _ _ _ _ _) ?_
      rw [exI_snd] at hp ⊢
      split
      · rename_i h11
        rw [if_pos h11] at hp
        show putP (pu W inp c g).2 _ _ = (pu W inp c g).2
        have ho := (pu_out (W := W) (inp := inp) (c := c) a).1
        unfold putP at hp ⊢
        rw [if_pos ho] at hp
        obtain ⟨r, hr⟩ := hp
        have hl := congrArg List.length hr
        simp only [List.length_append, List.length_cons, List.length_nil] at hl
        have hg : (pu W inp c g).2.1[(pu W inp c a).1.out]? = some (topS (pu W inp c a).1.stack) := by
          rw [← hr, ho]
          simp
        rw [if_neg (by omega), if_pos hg]
      · rfl
    · rw [if_neg hs, if_neg hs]
end

/-- A life, by the document: what it knows, what was committed last, the printer. -/
structure Lf where
  m : Md
  k : Md
  p : Pr
section
variable (W : List Is) (inp : List Int)
def stepL (q : Bool) (x : Lf) : Lf := ⟨(stB W inp x.m x.p).1, if q && comB W x.m then (stB W inp x.m x.p).1 else x.k, (stB W inp x.m x.p).2⟩
def wakeL (x : Lf) : Lf := { x with m := x.k }
/-- So many instructions, as long as it goes on. -/
def runL : Nat → Lf → Lf × Nat
  | 0, x => (x, 0)
  | n + 1, x => if x.m.state = 0 then ((runL n (stepL W inp true x)).1, (runL n (stepL W inp true x)).2 + 1) else (x, 0)
/-- To the next commit, so many at most; keep: it stays. -/
def tearL (keep : Bool) : Nat → Lf → Lf × Nat
  | 0, x => (x, 0)
  | n + 1, x => if comB W x.m then (wakeL (stepL W inp keep x), 1) else if x.m.state = 0 then ((tearL keep n (stepL W inp true x)).1, (tearL keep n (stepL W inp true x)).2 + 1) else (x, 0)
/-- A step of a life: its kind, its N, does a commit that is torn stay? -/
def doL (kind : Int) (n : Nat) (keep : Bool) (x : Lf) : Lf × Nat := if kind = 2 then (wakeL x, 0) else if kind = 3 then tearL W inp keep n x else runL W inp n x
variable {W inp} {c : Nat}
/-- It is the life without crashes, somewhere; and so is what was committed last; what was printed is printed without crashes by g instructions. -/
def InvL (W : List Is) (inp : List Int) (c : Nat) (x : Lf) (g : Nat) : Prop := ∃ a b, x.m = (pu W inp c a).1 ∧ x.k = (pu W inp c b).1 ∧ x.p = (pu W inp c g).2 ∧ a ≤ g ∧ b ≤ g
theorem invL0 : InvL W inp c ⟨mind0 c, mind0 c, ([], false)⟩ 0 := ⟨0, 0, rfl, rfl, rfl, Nat.le_refl _, Nat.le_refl _⟩
theorem InvL.wake {x : Lf} {g : Nat} (h : InvL W inp c x g) : InvL W inp c (wakeL x) g := by
  obtain ⟨a, b, _, h2, h3, _, h5⟩ := h
  exact ⟨b, b, h2, h2, h3, h5, h5⟩
theorem InvL.step {x : Lf} {g : Nat} (h : InvL W inp c x g) (q : Bool) : ∃ g', g ≤ g' ∧ g' ≤ g + 1 ∧ InvL W inp c (stepL W inp q x) g' := by
  obtain ⟨a, b, h1, h2, h3, h4, h5⟩ := h
  have hs := pu_again (W := W) (inp := inp) (c := c) h4
  rw [← h1, ← h3] at hs
  refine ⟨max g (a + 1), by omega, by omega, ?_⟩
  unfold stepL
  rw [hs]
  cases q && comB W x.m
  · exact ⟨a + 1, b, rfl, h2, rfl, by omega, by omega⟩
  · exact ⟨a + 1, a + 1, rfl, rfl, rfl, by omega, by omega⟩
theorem InvL.run : ∀ (n : Nat) {x : Lf} {g : Nat}, InvL W inp c x g → ∃ g', g ≤ g' ∧ g' ≤ g + (runL W inp n x).2 ∧ InvL W inp c (runL W inp n x).1 g'
  | 0, x, g, h => ⟨g, Nat.le_refl _, Nat.le_refl _, h⟩
  | n + 1, x, g, h => by
    simp only [runL]
    split
    · obtain ⟨g1, a1, a2, a3⟩ := h.step true
      obtain ⟨g2, b1, b2, b3⟩ := InvL.run n a3
      exact ⟨g2, by omega, by simp only; omega, b3⟩
    · exact ⟨g, Nat.le_refl _, Nat.le_refl _, h⟩
theorem InvL.tear (keep : Bool) : ∀ (n : Nat) {x : Lf} {g : Nat}, InvL W inp c x g → ∃ g', g ≤ g' ∧ g' ≤ g + (tearL W inp keep n x).2 ∧ InvL W inp c (tearL W inp keep n x).1 g'
  | 0, x, g, h => ⟨g, Nat.le_refl _, Nat.le_refl _, h⟩
  | n + 1, x, g, h => by
    simp only [tearL]
    split
    · obtain ⟨g1, a1, a2, a3⟩ := h.step keep
      exact ⟨g1, a1, a2, a3.wake⟩
    split
    · obtain ⟨g1, a1, a2, a3⟩ := h.step true
      obtain ⟨g2, b1, b2, b3⟩ := InvL.tear keep n a3
      exact ⟨g2, by omega, by simp only; omega, b3⟩
    · exact ⟨g, Nat.le_refl _, Nat.le_refl _, h⟩
theorem InvL.does {x : Lf} {g : Nat} (h : InvL W inp c x g) (kind : Int) (n : Nat) (keep : Bool) : ∃ g', g ≤ g' ∧ g' ≤ g + (doL W inp kind n keep x).2 ∧ InvL W inp c (doL W inp kind n keep x).1 g' := by
  unfold doL
  split
  · exact ⟨g, Nat.le_refl _, Nat.le_refl _, h.wake⟩
  split
  · exact InvL.tear keep n h
  · exact InvL.run n h
/-- What was printed begins what is printed without crashes by as many instructions; nothing else was to be printed. -/
theorem InvL.prints {x : Lf} {g all : Nat} (h : InvL W inp c x g) (hg : g ≤ all) : x.p.1 <+: (pu W inp c all).2.1 ∧ x.p.2 = false := by
  obtain ⟨a, b, _, _, h3, _, _⟩ := h
  rw [h3]
  exact ⟨pu_pre hg, (pu_out g).2⟩
theorem runL_pu : ∀ (n : Nat) {x : Lf} {a g : Nat}, x.m = (pu W inp c a).1 → x.p = (pu W inp c g).2 → a ≤ g → (runL W inp n x).1.m = (pu W inp c (a + n)).1 ∧ (runL W inp n x).1.p = (pu W inp c (max g (a + n))).2
  | 0, x, a, g, h1, h2, h3 => ⟨h1, by rw [show max g (a + 0) = g by omega]; exact h2⟩
  | n + 1, x, a, g, h1, h2, h3 => by
    simp only [runL]
    split
    · have hs := pu_again (W := W) (inp := inp) (c := c) h3
      rw [← h1, ← h2] at hs
      have := runL_pu n (x := stepL W inp true x) (a := a + 1) (g := max g (a + 1)) (by unfold stepL; rw [hs]) (by unfold stepL; rw [hs]) (by omega)
      rw [show a + (n + 1) = a + 1 + n by omega, show max g (a + 1 + n) = max (max g (a + 1)) (a + 1 + n) by omega]
      exact this
    · rename_i hs
      rw [h1] at hs
      refine ⟨?_, ?_⟩
      · rw [pu_idle hs (a + (n + 1)) (by omega)]; exact h1
      · rw [pu_idle hs (max g (a + (n + 1))) (by omega), ← pu_idle hs g h3]; exact h2
/-- A life with crashes is a life without: where that one has come to its end by n instructions, a life that has as many at last comes to just that. -/
theorem InvL.same {x : Lf} {g n : Nat} (h : InvL W inp c x g) (hn : (pu W inp c n).1.state ≠ 0) : (runL W inp n x).1.m = (pu W inp c n).1 ∧ (runL W inp n x).1.p = (pu W inp c n).2 := by
  obtain ⟨a, b, h1, _, h3, h4, _⟩ := h
  obtain ⟨g1, g2⟩ := runL_pu n h1 h3 h4
  rw [g1, g2, pu_idle hn (a + n) (by omega), pu_idle hn (max g (a + n)) (by omega)]
  exact ⟨rfl, rfl⟩
/-- Behind a commit that was done nothing is lost. -/
theorem commit_kept {x : Lf} (h : comB W x.m = true) : wakeL (stepL W inp true x) = stepL W inp true x := by
  unfold wakeL stepL
  rw [h]
  rfl
end
end E
end Go.Proofs.YtmplkogkphmmjafGreat

/- Plain mathematics of what a program says, second part: what expressions and statements say is what instructions do. -/
namespace Go.Proofs.YtmplkogkphmmjafGreat
set_option maxRecDepth 20000
set_option maxHeartbeats 4000000
namespace E

def Seg (W : List Is) (i : Nat) (l : List Is) : Prop := ∀ j x, l[j]? = some x → W[i + j]? = some x
theorem Seg.left {W : List Is} {i : Nat} {a b : List Is} (h : Seg W i (a ++ b)) : Seg W i a := fun j x hx => h j x (by
  have hj := (List.getElem?_eq_some_iff.1 hx).1
  rw [List.getElem?_append_left hj]; exact hx)
theorem Seg.right {W : List Is} {i : Nat} {a b : List Is} (h : Seg W i (a ++ b)) : Seg W (i + a.length) b := fun j x hx => by
  have := h (a.length + j) x (by rw [List.getElem?_append_right (by omega), Nat.add_sub_cancel_left]; exact hx)
  rw [← Nat.add_assoc] at this
  exact this
theorem Seg.head {W : List Is} {i : Nat} {x : Is} {b : List Is} (h : Seg W i (x :: b)) : W[i]? = some x ∧ Seg W (i + 1) b :=
  ⟨h 0 x rfl, fun j y hy => by
    have := h (j + 1) y hy
    rw [Nat.add_comm j 1, ← Nat.add_assoc] at this
    exact this⟩
theorem top_app (s : List Int) (x : Int) : topS (s ++ [x]) = x := by simp [topS]
theorem drop_app (s : List Int) (x : Int) : (s ++ [x]).dropLast = s := by simp

section
variable {vs : List VarT} {W : List Is} {inp : List Int} {fuel : Nat}
mutual
theorem simE : ∀ (t : ET) {d k k' : Nat}, chkE vs.length t d k = .ok k' → ∀ (i : Nat) (s : List Int) (e : Es), Seg W i (insE vs t) → e.n ≤ fuel →
    Sims W inp fuel (mdOf i s e) e (evE vs fuel t e) (fun a => a.2) (fun a m => m = mdOf (i + (insE vs t).length) (s ++ [a.1]) a.2)
  | .mk op v n l, d, k, k', h, i, s, e, hW, hn => by
    obtain ⟨_, h1, k1, h2⟩ := chkE_inv h
    obtain ⟨a1, a2, a3, _, _, _⟩ := ownE_inv h1
    obtain ⟨p1, p2, p3, p4⟩ := parts_le a3
    simp only [insE] at hW ⊢
    simp only [evE]
    refine Sims.bnd (simEs l h2 i s e hW.left hn) ?_
    rintro ⟨xs, s1⟩ m _ ⟨rfl, hxl⟩ _ hn1
    simp only at hn1 hxl ⊢
    obtain ⟨hx, _⟩ := hW.right.head
    refine Sims.tick hx rfl rfl hn1 ?_
    intro _
    have hlen : ∀ x : Is, i + (insEs vs l ++ [x]).length = i + (insEs vs l).length + 1 := fun x => by simp; omega
    unfold sayE
    by_cases e1 : op = 1
    · subst e1
      have hx0 : xs = [] := List.eq_nil_of_length_eq_zero (by have := p2 (.inl rfl); omega)
      subst hx0
      rw [if_pos rfl]
      refine ⟨rfl, rfl, ?_⟩
      rw [hlen]
      simp [exI, mdOf]
    rw [if_neg e1]
    by_cases e2 : op = 2
    · subst e2
      have hx0 : xs = [] := List.eq_nil_of_length_eq_zero (by have := p2 (.inr rfl); omega)
      subst hx0
      rw [if_pos rfl]
      refine ⟨rfl, rfl, ?_⟩
      rw [hlen]
      simp [exI, mdOf]
    rw [if_neg e2]
    by_cases e3 : op = 3
    · subst e3
      obtain ⟨y, rfl⟩ : ∃ y, xs = [y] := by
        have := p3 rfl
        match xs, hxl with
        | [y], _ => exact ⟨y, rfl⟩
        | [], hxl => simp at hxl; omega
        | _ :: _ :: _, hxl => simp at hxl; omega
      rw [if_pos rfl]
      have hy : [y].getD 0 0 = y := rfl
      rw [hy]
      by_cases hr : 0 ≤ y ∧ y < sizeV vs v
      · rw [if_pos hr]
        refine ⟨rfl, ?_, ?_⟩
        · simp [exI, mdOf, top_app, hr]
        · rw [hlen]
          simp [exI, mdOf, top_app, hr]
      · rw [if_neg hr]
        refine ⟨rfl, ?_, ?_, (by show (11 : Nat) ≠ 13; decide), (by show (11 : Nat) ≠ 0; decide), ?_⟩
        · simp [exI, mdOf, top_app, hr]
        · simp [exI, mdOf, top_app, hr]
        · simp [exI, mdOf, top_app, hr]
    rw [if_neg e3]
    obtain ⟨z, y, rfl⟩ : ∃ z y, xs = [z, y] := by
      have := p4 (by omega)
      match xs, hxl with
      | [z, y], _ => exact ⟨z, y, rfl⟩
      | [], hxl => simp at hxl; omega
      | [_], hxl => simp at hxl; omega
      | _ :: _ :: _ :: _, hxl => simp at hxl; omega
    have hs2 : s ++ [z, y] = (s ++ [z]) ++ [y] := by simp
    have hex : ∀ A B, exI inp (op, A, B, n) (mdOf (i + (insEs vs l).length) (s ++ [z, y]) s1) (s1.out, false) = (mdOf (i + (insEs vs l).length + 1) (s ++ [ariI op z y]) { s1 with n := s1.n + 1 }, (s1.out, false)) := fun A B => by
      unfold exI
      simp only
      rw [if_neg e1, if_neg e2, if_neg e3, if_pos ⟨by omega, a2⟩]
      simp only [mdOf, hs2, top_app, drop_app]
    refine ⟨rfl, by rw [hex], ?_⟩
    rw [hlen, hex]
    simp
theorem simEs : ∀ (l : List ET) {d k k' : Nat}, chkEs vs.length l d k = .ok k' → ∀ (i : Nat) (s : List Int) (e : Es), Seg W i (insEs vs l) → e.n ≤ fuel →
    Sims W inp fuel (mdOf i s e) e (evEs vs fuel l e) (fun a => a.2) (fun a m => m = mdOf (i + (insEs vs l).length) (s ++ a.1) a.2 ∧ a.1.length = l.length)
  | [], _, _, _, _, i, s, e, _, hn => by
    simp only [evEs]
    exact Sims.ok rfl hn ⟨by simp [insEs], rfl⟩
  | t :: r, d, k, k', h, i, s, e, hW, hn => by
    obtain ⟨⟨k1, h1⟩, k2, h2⟩ := chkEs_inv h
    simp only [insEs] at hW ⊢
    simp only [evEs]
    refine Sims.bnd (simE t h1 i s e hW.left hn) ?_
    rintro ⟨x, s1⟩ m _ rfl _ hn1
    refine Sims.bnd (simEs r h2 _ (s ++ [x]) s1 hW.right hn1) ?_
    rintro ⟨xs, s2⟩ m _ ⟨rfl, hxl⟩ _ hn2
    refine Sims.ok rfl hn2 ⟨?_, by simp only [List.length_cons]; simp only at hxl; omega⟩
    simp [Nat.add_assoc]
end

mutual
theorem simS : ∀ (t : ST) {d k k' : Nat}, chkS vs.length t d k = .ok k' → ∀ (i : Nat) (e : Es), Seg W i (insS vs t i) → e.n ≤ fuel →
    Sims W inp fuel (mdOf i [] e) e (evS vs inp fuel t e) id (fun a m => m = mdOf (i + (insS vs t i).length) [] a)
  | .mk op v e f b o, d, k, k', h, i, s, hW, hn => by
    obtain ⟨hd, h1, h2, h3, ⟨k1, k2, h4⟩, k3, k4, h5⟩ := chkS_inv h
    obtain ⟨a1, a2, _⟩ := ownS_inv h1
    have sb := fun i e => simSs b h4 i e
    have so := fun i e => simSs o h5 i e
    simp only [evS]
    simp only [insS] at hW ⊢
    by_cases e5 : op = 5
    · subst e5
      rw [if_pos rfl] at hW ⊢
      rw [if_pos rfl]
      obtain ⟨_, _, hce⟩ := h2 rfl
      have hEI : eI vs 5 e = insE vs e := rfl
      rw [hEI] at hW ⊢
      obtain ⟨X, hX⟩ : ∃ X, X = insSs vs b (i + (insE vs e).length + 1) := ⟨_, rfl⟩
      have hsb := sb (i + (insE vs e).length + 1)
      rw [← hX] at hW hsb ⊢
      have hwl : (whileI i (insE vs e) X).length = (insE vs e).length + 1 + X.length + 1 := by simp [whileI]; omega
      rw [hwl]
      unfold whileI at hW
      obtain ⟨hx1, hW2⟩ := hW.right.head
      obtain ⟨hx2, _⟩ := hW2.right.head
      have loop : ∀ (g : Nat) (s : Es), s.n ≤ fuel → fuel < g + s.n → Sims W inp fuel (mdOf i [] s) s (loopX fuel (evE vs fuel e) (evSs vs inp fuel b) g s) id (fun a m => m = mdOf (i + ((insE vs e).length + 1 + X.length + 1)) [] a) := by
        intro g
        induction g with
        | zero => intro s hs hg; omega
        | succ g ih =>
          intro s hs hg
          simp only [loopX]
          refine Sims.bnd (simE e hce i [] s hW.left hs) ?_
          rintro ⟨x, s1⟩ m _ rfl hn01 hn1
          simp only at hn01 hn1 ⊢
          refine Sims.bnd (Sims.tick1 hx1 rfl rfl hn1 rfl) ?_
          rintro s2 m _ ⟨rfl, rfl⟩ hn12 hn2
          simp only [id] at hn12 hn2 ⊢
          have hex : (exI inp (13, ((i + (insE vs e).length + 1 + X.length + 1 : Nat) : Int), 0, 0) (mdOf (i + (insE vs e).length) ([] ++ [x]) s1) (s1.out, false)).1 = mdOf (if x = 0 then i + (insE vs e).length + 1 + X.length + 1 else i + (insE vs e).length + 1) [] { s1 with n := s1.n + 1 } := by
            simp [exI, mdOf, topS]
            split <;> omega
          rw [hex]
          by_cases hx0 : x = 0
          · rw [if_pos hx0, if_pos hx0]
            exact Sims.ok rfl hn2 (by congr 1; omega)
          · rw [if_neg hx0, if_neg hx0]
            refine Sims.bnd (hsb { s1 with n := s1.n + 1 } hW2.left hn2) ?_
            rintro s3 m _ rfl hn23 hn3
            simp only [id] at hn23 hn3 ⊢
            refine Sims.bnd (Sims.tick1 hx2 rfl rfl hn3 rfl) ?_
            rintro s4 m _ ⟨rfl, rfl⟩ hn34 hn4
            simp only [id] at hn34 hn4 ⊢
            have hex2 : (exI inp (14, ((i : Nat) : Int), 0, 0) (mdOf (i + (insE vs e).length + 1 + X.length) [] s3) (s3.out, false)).1 = mdOf i [] { s3 with n := s3.n + 1 } := by
              simp [exI, mdOf]
            rw [hex2]
            exact ih _ hn4 (by show fuel < g + (s3.n + 1); omega)
      exact loop (fuel + 1) s hn (by omega)
    rw [if_neg e5] at hW ⊢
    rw [if_neg e5]
    by_cases e6 : op = 6
    · subst e6
      rw [if_pos rfl] at hW ⊢
      rw [if_pos rfl]
      obtain ⟨_, _, hce⟩ := h2 rfl
      have hEI : eI vs 6 e = insE vs e := rfl
      rw [hEI] at hW ⊢
      obtain ⟨X, hX⟩ : ∃ X, X = insSs vs b (i + (insE vs e).length + 1) := ⟨_, rfl⟩
      have hsb := sb (i + (insE vs e).length + 1)
      rw [← hX] at hW hsb ⊢
      obtain ⟨Y, hY⟩ : ∃ Y, Y = insSs vs o (i + (insE vs e).length + 1 + X.length + 1) := ⟨_, rfl⟩
      have hso := so (i + (insE vs e).length + 1 + X.length + 1)
      rw [← hY] at hW hso ⊢
      have hwl : (ifI i (insE vs e) X Y).length = (insE vs e).length + 1 + X.length + 1 + Y.length := by simp [ifI]; omega
      rw [hwl]
      unfold ifI at hW
      obtain ⟨hx1, hW2⟩ := hW.right.head
      obtain ⟨hx2, hW3⟩ := hW2.right.head
      refine Sims.bnd (simE e hce i [] s hW.left hn) ?_
      rintro ⟨x, s1⟩ m _ rfl hn01 hn1
      simp only at hn01 hn1 ⊢
      refine Sims.bnd (Sims.tick1 hx1 rfl rfl hn1 rfl) ?_
      rintro s2 m _ ⟨rfl, rfl⟩ hn12 hn2
      simp only [id] at hn12 hn2 ⊢
      have hex : (exI inp (13, ((i + (insE vs e).length + 1 + X.length + 1 : Nat) : Int), 0, 0) (mdOf (i + (insE vs e).length) ([] ++ [x]) s1) (s1.out, false)).1 = mdOf (if x = 0 then i + (insE vs e).length + 1 + X.length + 1 else i + (insE vs e).length + 1) [] { s1 with n := s1.n + 1 } := by
        simp [exI, mdOf, topS]
        split <;> omega
      rw [hex]
      by_cases hx0 : x = 0
      · rw [if_pos hx0, if_pos hx0]
        refine (hso { s1 with n := s1.n + 1 } hW3 hn2).mono ?_
        rintro a m rfl
        congr 1
        omega
      · rw [if_neg hx0, if_neg hx0]
        refine Sims.bnd (hsb { s1 with n := s1.n + 1 } hW2.left hn2) ?_
        rintro s3 m _ rfl hn23 hn3
        simp only [id] at hn23 hn3 ⊢
        refine (Sims.tick1 hx2 rfl rfl hn3 rfl).mono ?_
        rintro s4 m ⟨rfl, rfl⟩
        simp [exI, mdOf]
        omega
    rw [if_neg e6] at hW ⊢
    rw [if_neg e6]
    have hsegE := hW.left
    have hsegF := hW.right.left
    obtain ⟨hx, _⟩ := hW.right.right.head
    have hlen : i + (eI vs op e ++ (fI vs op f ++ [lastI vs op v])).length = i + (eI vs op e).length + (fI vs op f).length + 1 := by simp; omega
    rw [hlen]
    have sE : Sims W inp fuel (mdOf i [] s) s (if needE op then evE vs fuel e s else .ok (0, s)) (fun a => a.2) (fun a m => m = mdOf (i + (eI vs op e).length) (if needE op then [a.1] else []) a.2) := by
      unfold eI at hsegE ⊢
      cases hne : needE op with
      | false => exact Sims.ok rfl hn rfl
      | true =>
        obtain ⟨_, _, hc⟩ := h2 hne
        rw [hne] at hsegE
        exact simE e hc i [] s hsegE hn
    refine Sims.bnd sE ?_
    rintro ⟨x, s1⟩ m _ rfl _ hn1
    simp only at hn1 ⊢
    have sF : Sims W inp fuel (mdOf (i + (eI vs op e).length) (if needE op then [x] else []) s1) s1 (if needF op then evE vs fuel f s1 else .ok (0, s1)) (fun a => a.2) (fun a m => m = mdOf (i + (eI vs op e).length + (fI vs op f).length) ((if needE op then [x] else []) ++ (if needF op then [a.1] else [])) a.2) := by
      unfold fI at hsegF ⊢
      cases hnf : needF op with
      | false => exact Sims.ok rfl hn1 (by simp)
      | true =>
        obtain ⟨_, _, hc⟩ := h3 hnf
        rw [hnf] at hsegF
        exact simE f hc _ _ s1 hsegF hn1
    refine Sims.bnd sF ?_
    rintro ⟨y, s2⟩ m _ rfl _ hn2
    simp only at hn2 ⊢
    refine Sims.tick hx rfl rfl hn2 ?_
    intro _
    have hop : op = 1 ∨ op = 2 ∨ op = 3 ∨ op = 4 ∨ op = 7 := by omega
    rcases hop with rfl | rfl | rfl | rfl | rfl
    · exact ⟨rfl, rfl, by simp [exI, lastI, mdOf, needE, needF, topS]⟩
    · by_cases hr : 0 ≤ x ∧ x < sizeV vs v
      · have e9 : sayS vs inp 2 v x y { s2 with n := s2.n + 1 } = .ok { s2 with n := s2.n + 1, cells := s2.cells.set (cellOf vs v + x).toNat y } := by simp [sayS, hr]
        rw [e9]
        exact ⟨rfl, by simp [exI, lastI, mdOf, needE, needF, topS, hr], by simp [exI, lastI, mdOf, needE, needF, topS, hr]⟩
      · have e9 : sayS vs inp 2 v x y { s2 with n := s2.n + 1 } = .error (11, { s2 with n := s2.n + 1 }) := by simp [sayS, hr]
        rw [e9]
        exact ⟨rfl, by simp [exI, lastI, mdOf, needE, needF, topS, hr], by simp [exI, lastI, mdOf, needE, needF, topS, hr], (by show (11 : Nat) ≠ 13; decide), (by show (11 : Nat) ≠ 0; decide), by simp [exI, lastI, mdOf, needE, needF, topS, hr]⟩
    · refine ⟨rfl, ?_, ?_⟩
      · simp [exI, lastI, mdOf, needE, needF, topS, putP]
      · simp [exI, lastI, mdOf, needE, needF]
    · by_cases hr : s2.read < inp.length
      · have e9 : sayS vs inp 4 v x y { s2 with n := s2.n + 1 } = .ok { s2 with n := s2.n + 1, cells := s2.cells.set (cellOf vs v).toNat (inp.getD s2.read 0), read := s2.read + 1 } := by simp [sayS, hr]
        rw [e9]
        exact ⟨rfl, by simp [exI, lastI, mdOf, needE, needF, hr], by simp [exI, lastI, mdOf, needE, needF, hr]⟩
      · have e9 : sayS vs inp 4 v x y { s2 with n := s2.n + 1 } = .error (12, { s2 with n := s2.n + 1 }) := by simp [sayS, hr]
        rw [e9]
        exact ⟨rfl, by simp [exI, lastI, mdOf, needE, needF, hr], by simp [exI, lastI, mdOf, needE, needF, hr], (by show (12 : Nat) ≠ 13; decide), (by show (12 : Nat) ≠ 0; decide), by simp [exI, lastI, mdOf, needE, needF, hr]⟩
    · exact ⟨rfl, rfl, by simp [exI, lastI, mdOf, needE, needF]⟩
theorem simSs : ∀ (l : List ST) {d k k' : Nat}, chkSs vs.length l d k = .ok k' → ∀ (i : Nat) (e : Es), Seg W i (insSs vs l i) → e.n ≤ fuel →
    Sims W inp fuel (mdOf i [] e) e (evSs vs inp fuel l e) id (fun a m => m = mdOf (i + (insSs vs l i).length) [] a)
  | [], _, _, _, _, i, e, _, hn => by
    simp only [evSs]
    exact Sims.ok rfl hn (by simp [insSs])
  | t :: r, d, k, k', h, i, e, hW, hn => by
    obtain ⟨⟨k1, h1⟩, k2, h2⟩ := chkSs_inv h
    simp only [insSs] at hW ⊢
    simp only [evSs]
    refine Sims.bnd (simS t h1 i e hW.left hn) ?_
    rintro s1 m _ rfl _ hn1
    refine (simSs r h2 _ s1 hW.right hn1).mono ?_
    rintro a m rfl
    simp [Nat.add_assoc]
end
end
end E
end Go.Proofs.YtmplkogkphmmjafGreat
