/- Plain mathematics of programs: what is one, and what its fault is. -/
import Derived.Test.YtpbdjpoohpocfabTreeA
namespace Go.Proofs.Ytpbdjpoohpocfab
set_option maxRecDepth 20000
namespace E

abbrev VarT := ByteArray × Int

def partsOf (op : Int) : Int := if op = 1 ∨ op = 2 then 0 else if op = 3 then 1 else if 4 ≤ op ∧ op ≤ 8 then 2 else -1
def needE (op : Int) : Bool := op == 1 || op == 2 || op == 3 || op == 5 || op == 6
def needF (op : Int) : Bool := op == 2
def needV (op : Int) : Bool := op == 1 || op == 2 || op == 4
def needB (op : Int) : Bool := op == 5 || op == 6
def needO (op : Int) : Bool := op == 6
def letter (c : UInt8) : Bool := decide (97 ≤ c.toNat) && decide (c.toNat ≤ 122)
def nameOk (s : ByteArray) : Bool := s.data.toList.all letter && decide (1 ≤ s.size) && decide (s.size ≤ 8)

/-- A part is met: the number of parts behind it, or a code. -/
def headK (deep k : Nat) : Except Int Nat := if deep > 12 then .error 4 else if k + 1 > 150 then .error 3 else .ok (k + 1)
def varK (nv : Nat) (v : Int) (has : Bool) : Int := if has then (if v < 0 ∨ v ≥ (nv : Int) then 1 else 0) else (if v ≠ 0 then 5 else 0)
def zeroE : ET → Bool
  | .mk op v n l => op == 0 && v == 0 && n == 0 && l.isEmpty

def nextK (x : Except Int Nat) (f : Nat → Except Int Nat) : Except Int Nat := match x with
  | .error c => .error c
  | .ok k => f k

/-- The fault of an expression's own. -/
def ownE (nv : Nat) (op v n : Int) (len : Nat) : Int :=
  if partsOf op < 0 then 2 else if partsOf op ≠ (len : Int) then 5 else if op ≠ 1 ∧ n ≠ 0 then 5 else varK nv v (op == 2 || op == 3)
/-- The fault of a statement's own. -/
def ownS (nv : Nat) (op v : Int) (e f : ET) (lb lo : Nat) : Int :=
  if op < 1 ∨ op > 7 then 2
  else if (!needE op && !zeroE e || !needF op && !zeroE f) = true then 5
  else if (!needB op && decide (0 < lb) || !needO op && decide (0 < lo)) = true then 5
  else varK nv v (needV op)

mutual
def chkE (nv : Nat) : ET → Nat → Nat → Except Int Nat
  | .mk op v n l, deep, k => nextK (headK deep k) fun k1 => if ownE nv op v n l.length ≠ 0 then .error (ownE nv op v n l.length) else chkEs nv l (deep + 1) k1
def chkEs (nv : Nat) : List ET → Nat → Nat → Except Int Nat
  | [], _, k => .ok k
  | t :: r, deep, k => nextK (chkE nv t deep k) fun k1 => chkEs nv r deep k1
end
mutual
def chkS (nv : Nat) : ST → Nat → Nat → Except Int Nat
  | .mk op v e f b o, deep, k => nextK (headK deep k) fun k1 => if ownS nv op v e f b.length o.length ≠ 0 then .error (ownS nv op v e f b.length o.length) else
      nextK (if needE op then chkE nv e (deep + 1) k1 else .ok k1) fun k2 => nextK (if needF op then chkE nv f (deep + 1) k2 else .ok k2) fun k3 =>
        nextK (chkSs nv b (deep + 1) k3) fun k4 => chkSs nv o (deep + 1) k4
def chkSs (nv : Nat) : List ST → Nat → Nat → Except Int Nat
  | [], _, k => .ok k
  | t :: r, deep, k => nextK (chkS nv t deep k) fun k1 => chkSs nv r deep k1
end

def codeOf : Except Int Nat → Int
  | .error c => c
  | .ok _ => 0

def chkV (done : List ByteArray) (n : Int) : List VarT → Int
  | [] => 0
  | x :: r => if nameOk x.1 = false then 8 else if (done.any fun s => s.toList == x.1.toList) = true then 9 else if x.2 < 1 ∨ x.2 > 48 ∨ n + x.2 > 48 then 1 else chkV (done ++ [x.1]) (n + x.2) r
def progFault (vs : List VarT) (body : List ST) : Int :=
  if vs.length > 8 then 3 else if chkV [] 0 vs ≠ 0 then chkV [] 0 vs else codeOf (chkSs vs.length body 0 0)

/-- How many cells the first ones have. -/
def sumV (vs : List VarT) : Int := (vs.map (·.2)).sum
def cellOf (vs : List VarT) (v : Int) : Int := sumV (vs.take v.toNat)

/-! ### The same? -/
mutual
def eqE : ET → ET → Bool
  | .mk op v n l, .mk op' v' n' l' => op == op' && v == v' && n == n' && eqEs l l'
def eqEs : List ET → List ET → Bool
  | [], [] => true
  | t :: r, t' :: r' => eqE t t' && eqEs r r'
  | _, _ => false
end
mutual
def eqS : ST → ST → Bool
  | .mk op v e f b o, .mk op' v' e' f' b' o' => op == op' && v == v' && eqE e e' && eqE f f' && eqSs b b' && eqSs o o'
def eqSs : List ST → List ST → Bool
  | [], [] => true
  | t :: r, t' :: r' => eqS t t' && eqSs r r'
  | _, _ => false
end
def eqV (a b : VarT) : Bool := a.1.toList == b.1.toList && a.2 == b.2
def eqVs : List VarT → List VarT → Bool
  | [], [] => true
  | t :: r, t' :: r' => eqV t t' && eqVs r r'
  | _, _ => false
def eqP (vs : List VarT) (b : List ST) (vs' : List VarT) (b' : List ST) : Bool := eqVs vs vs' && eqSs b b'

mutual
theorem eqE_refl : ∀ t, eqE t t = true
  | .mk op v n l => by simp [eqE, eqEs_refl l]
theorem eqEs_refl : ∀ l, eqEs l l = true
  | [] => by simp [eqEs]
  | t :: r => by simp [eqEs, eqE_refl t, eqEs_refl r]
end
mutual
theorem eqS_refl : ∀ t, eqS t t = true
  | .mk op v e f b o => by simp [eqS, eqE_refl, eqSs_refl b, eqSs_refl o]
theorem eqSs_refl : ∀ l, eqSs l l = true
  | [] => by simp [eqSs]
  | t :: r => by simp [eqSs, eqS_refl t, eqSs_refl r]
end
theorem eqVs_refl : ∀ l, eqVs l l = true
  | [] => rfl
  | t :: r => by simp [eqVs, eqV, eqVs_refl r]
theorem eqP_refl (vs : List VarT) (b : List ST) : eqP vs b vs b = true := by simp [eqP, eqVs_refl, eqSs_refl]

/-! ### What is less is a program, too -/
theorem nextK_ok {x : Except Int Nat} {f : Nat → Except Int Nat} {k' : Nat} (h : nextK x f = .ok k') : ∃ k, x = .ok k ∧ f k = .ok k' := by
  cases x with
  | error c => cases h
  | ok k => exact ⟨k, rfl, h⟩
theorem headK_ok {deep k k' : Nat} (h : headK deep k = .ok k') : k' = k + 1 ∧ deep ≤ 12 ∧ k + 1 ≤ 150 := by
  unfold headK at h
  split at h
  · cases h
  · split at h
    · cases h
    · injection h with h
      omega
theorem headK_mk {deep k : Nat} (h1 : deep ≤ 12) (h2 : k + 1 ≤ 150) : headK deep k = .ok (k + 1) := by
  unfold headK
  rw [if_neg (by omega), if_neg (by omega)]

/-- What is one stays one where there is more room; it has so many parts. -/
def Roomy (f : Nat → Nat → Except Int Nat) : Prop := ∀ d k k', f d k = .ok k' → ∃ c, k' = k + c ∧ ∀ d' m, d' ≤ d → m ≤ k → f d' m = .ok (m + c)

theorem Roomy.ok : Roomy fun _ k => .ok k := fun d k k' h => by
  injection h with h
  exact ⟨0, by omega, fun _ _ _ _ => rfl⟩
theorem Roomy.next {f g : Nat → Nat → Except Int Nat} (hf : Roomy f) (hg : Roomy g) : Roomy fun d k => nextK (f d k) fun k1 => g d k1 := fun d k k' h => by
  obtain ⟨k1, h1, h2⟩ := nextK_ok h
  obtain ⟨c1, e1, m1⟩ := hf d k k1 h1
  obtain ⟨c2, e2, m2⟩ := hg d k1 k' h2
  refine ⟨c1 + c2, by omega, fun d' m hd hm => ?_⟩
  show nextK (f d' m) (fun k1 => g d' k1) = _
  rw [m1 d' m hd hm]
  show g d' (m + c1) = _
  rw [m2 d' (m + c1) hd (by omega), Nat.add_assoc]
theorem Roomy.deeper {f : Nat → Nat → Except Int Nat} (hf : Roomy f) : Roomy fun d k => f (d + 1) k := fun d k k' h => by
  obtain ⟨c, e, m⟩ := hf (d + 1) k k' h
  exact ⟨c, e, fun d' m' hd hm => m (d' + 1) m' (by omega) hm⟩
theorem Roomy.head : Roomy headK := fun d k k' h => by
  obtain ⟨e, h1, h2⟩ := headK_ok h
  exact ⟨1, e, fun d' m hd hm => headK_mk (by omega) (by omega)⟩
theorem Roomy.unless {f : Nat → Nat → Except Int Nat} (c : Int) (hf : Roomy f) : Roomy fun d k => if c ≠ 0 then .error c else f d k := by
  by_cases h : c = 0
  · simp only [h, ne_eq, not_true_eq_false, if_false]
    exact hf
  · intro d k k' e
    simp only [ne_eq, h, not_false_eq_true, if_true] at e
    cases e
theorem Roomy.ite {f : Nat → Nat → Except Int Nat} (b : Bool) (hf : Roomy f) : Roomy fun d k => if b then f d k else .ok k := by
  cases b
  · exact Roomy.ok
  · exact hf

mutual
theorem roomyE (nv : Nat) : ∀ t, Roomy (chkE nv t)
  | .mk op v n l => by
    have := Roomy.next Roomy.head (Roomy.unless (ownE nv op v n l.length) (roomyEs nv l).deeper)
    intro d k k' h
    simp only [chkE] at h ⊢
    exact this d k k' h
theorem roomyEs (nv : Nat) : ∀ l, Roomy (chkEs nv l)
  | [] => by
    intro d k k' h
    simp only [chkEs] at h ⊢
    exact Roomy.ok d k k' h
  | t :: r => by
    have := Roomy.next (roomyE nv t) (roomyEs nv r)
    intro d k k' h
    simp only [chkEs] at h ⊢
    exact this d k k' h
end
mutual
theorem roomyS (nv : Nat) : ∀ t, Roomy (chkS nv t)
  | .mk op v e f b o => by
    have := Roomy.next Roomy.head (Roomy.unless (ownS nv op v e f b.length o.length) (Roomy.next (Roomy.ite (needE op) (roomyE nv e).deeper) (Roomy.next (Roomy.ite (needF op) (roomyE nv f).deeper) (Roomy.next (roomySs nv b).deeper (roomySs nv o).deeper))))
    intro d k k' h
    simp only [chkS] at h ⊢
    exact this d k k' h
theorem roomySs (nv : Nat) : ∀ l, Roomy (chkSs nv l)
  | [] => by
    intro d k k' h
    simp only [chkSs] at h ⊢
    exact Roomy.ok d k k' h
  | t :: r => by
    have := Roomy.next (roomyS nv t) (roomySs nv r)
    intro d k k' h
    simp only [chkSs] at h ⊢
    exact this d k k' h
end

/-- Some statements, in their order. -/
theorem chkSs_sub (nv : Nat) {l l' : List ST} (hs : l'.Sublist l) : ∀ {d k k' : Nat}, chkSs nv l d k = .ok k' → ∃ k2, chkSs nv l' d k = .ok k2 ∧ k2 ≤ k' := by
  induction hs with
  | slnil => intro d k k' h; exact ⟨k', h, Nat.le_refl _⟩
  | cons a _ ih =>
    intro d k k' h
    simp only [chkSs] at h
    obtain ⟨k1, h1, h2⟩ := nextK_ok h
    obtain ⟨c, e, _⟩ := roomyS nv a d k k1 h1
    obtain ⟨k2, h3, hle⟩ := ih h2
    obtain ⟨c2, e2, m2⟩ := roomySs nv _ d k1 k2 h3
    exact ⟨k + c2, m2 d k (Nat.le_refl _) (by omega), by omega⟩
  | cons_cons a _ ih =>
    intro d k k' h
    simp only [chkSs] at h ⊢
    obtain ⟨k1, h1, h2⟩ := nextK_ok h
    obtain ⟨k2, h3, hle⟩ := ih h2
    exact ⟨k2, by rw [h1]; exact h3, hle⟩

theorem chkS_in (nv : Nat) {op v : Int} {e f : ET} {b o : List ST} {d k k' : Nat} (h : chkS nv (.mk op v e f b o) d k = .ok k') : (∃ k2, chkSs nv b 0 0 = .ok k2) ∧ ∃ k2, chkSs nv o 0 0 = .ok k2 := by
  simp only [chkS] at h
  obtain ⟨k1, _, h⟩ := nextK_ok h
  split at h
  · cases h
  · obtain ⟨k2, _, h⟩ := nextK_ok h
    obtain ⟨k3, _, h⟩ := nextK_ok h
    obtain ⟨k4, hb, ho⟩ := nextK_ok h
    obtain ⟨c, _, m⟩ := roomySs nv b _ _ _ hb
    obtain ⟨c', _, m'⟩ := roomySs nv o _ _ _ ho
    exact ⟨⟨_, m 0 0 (by omega) (by omega)⟩, ⟨_, m' 0 0 (by omega) (by omega)⟩⟩
theorem chkSs_mem (nv : Nat) {l : List ST} {s : ST} (hs : s ∈ l) : ∀ {d k k' : Nat}, chkSs nv l d k = .ok k' → ∃ k1 k2, chkS nv s d k1 = .ok k2 := by
  induction l with
  | nil => cases hs
  | cons a r ih =>
    intro d k k' h
    simp only [chkSs] at h
    obtain ⟨k1, h1, h2⟩ := nextK_ok h
    rcases List.mem_cons.1 hs with rfl | hs
    · exact ⟨k, k1, h1⟩
    · exact ih hs h2
theorem codeOf_ok {x : Except Int Nat} (h : codeOf x = 0) (hne : ∀ c, x = .error c → c ≠ 0) : ∃ k, x = .ok k := by
  cases x with
  | error c => exact absurd h (hne c rfl)
  | ok k => exact ⟨k, rfl⟩

/-! ### Codes are not 0 -/
def Coded (x : Except Int Nat) : Prop := ∀ c, x = .error c → c ≠ 0
theorem coded_next {x : Except Int Nat} {f : Nat → Except Int Nat} (hx : Coded x) (hf : ∀ k, Coded (f k)) : Coded (nextK x f) := by
  cases x with
  | error c => exact fun c' h => hx c' h
  | ok k => exact hf k
theorem coded_ok (k : Nat) : Coded (.ok k) := fun c h => by cases h
theorem coded_head (d k : Nat) : Coded (headK d k) := by
  unfold headK
  split
  · intro c h; cases h; decide
  · split
    · intro c h; cases h; decide
    · exact coded_ok _
theorem coded_unless {c : Int} {x : Except Int Nat} (hx : Coded x) : Coded (if c ≠ 0 then .error c else x) := by
  split
  · rename_i h
    intro c' e
    cases e
    exact h
  · exact hx
mutual
theorem codedE (nv : Nat) : ∀ t d k, Coded (chkE nv t d k)
  | .mk op v n l, d, k => by
    simp only [chkE]
    exact coded_next (coded_head d k) fun k1 => coded_unless (codedEs nv l _ _)
theorem codedEs (nv : Nat) : ∀ l d k, Coded (chkEs nv l d k)
  | [], d, k => by simp only [chkEs]; exact coded_ok k
  | t :: r, d, k => by
    simp only [chkEs]
    exact coded_next (codedE nv t d k) fun k1 => codedEs nv r d k1
end
theorem coded_ite {b : Bool} {x y : Except Int Nat} (hx : Coded x) (hy : Coded y) : Coded (if b then x else y) := by cases b <;> assumption
mutual
theorem codedS (nv : Nat) : ∀ t d k, Coded (chkS nv t d k)
  | .mk op v e f b o, d, k => by
    simp only [chkS]
    exact coded_next (coded_head d k) fun k1 => coded_unless (coded_next (coded_ite (codedE nv e _ _) (coded_ok _)) fun k2 => coded_next (coded_ite (codedE nv f _ _) (coded_ok _)) fun k3 => coded_next (codedSs nv b _ _) fun k4 => codedSs nv o _ _)
theorem codedSs (nv : Nat) : ∀ l d k, Coded (chkSs nv l d k)
  | [], d, k => by simp only [chkSs]; exact coded_ok k
  | t :: r, d, k => by
    simp only [chkSs]
    exact coded_next (codedS nv t d k) fun k1 => codedSs nv r d k1
end

/-- A program's body, and what is less. -/
theorem progFault_ok {vs : List VarT} {body : List ST} (h : progFault vs body = 0) : vs.length ≤ 8 ∧ chkV [] 0 vs = 0 ∧ ∃ k, chkSs vs.length body 0 0 = .ok k := by
  unfold progFault at h
  split at h
  · cases h
  · split at h
    · rename_i h1
      exact absurd h h1
    · rename_i h1 h2
      exact ⟨by omega, by simpa using h2, codeOf_ok h (codedSs _ _ _ _)⟩
theorem progFault_mk {vs : List VarT} {body : List ST} (h1 : vs.length ≤ 8) (h2 : chkV [] 0 vs = 0) {k : Nat} (h3 : chkSs vs.length body 0 0 = .ok k) : progFault vs body = 0 := by
  unfold progFault
  rw [if_neg (by omega), if_neg (by simp [h2]), h3]
  rfl
theorem progFault_sub {vs : List VarT} {body body' : List ST} (h : progFault vs body = 0) (hs : body'.Sublist body) : progFault vs body' = 0 := by
  obtain ⟨h1, h2, k, h3⟩ := progFault_ok h
  obtain ⟨k2, h4, _⟩ := chkSs_sub vs.length hs h3
  exact progFault_mk h1 h2 h4
theorem progFault_in {vs : List VarT} {body : List ST} {op v : Int} {e f : ET} {b o : List ST} (h : progFault vs body = 0) (hs : .mk op v e f b o ∈ body) : progFault vs b = 0 ∧ progFault vs o = 0 := by
  obtain ⟨h1, h2, k, h3⟩ := progFault_ok h
  obtain ⟨k1, k2, h4⟩ := chkSs_mem vs.length hs h3
  obtain ⟨⟨_, h5⟩, ⟨_, h6⟩⟩ := chkS_in vs.length h4
  exact ⟨progFault_mk h1 h2 h5, progFault_mk h1 h2 h6⟩

/-! ### Cells -/
theorem chkV_sizes : ∀ {vs : List VarT} {done : List ByteArray} {n : Int}, chkV done n vs = 0 → (∀ x ∈ vs, 1 ≤ x.2 ∧ x.2 ≤ 48) ∧ (n ≤ 48 → n + sumV vs ≤ 48)
  | [], _, n, _ => by simp [sumV]
  | x :: r, done, n, h => by
    unfold chkV at h
    split at h
    · cases h
    · split at h
      · cases h
      · split at h
        · cases h
        · rename_i h3
          obtain ⟨h4, h5⟩ := chkV_sizes h
          refine ⟨fun y hy => ?_, fun _ => ?_⟩
          · rcases List.mem_cons.1 hy with rfl | hy
            · omega
            · exact h4 y hy
          · have := h5 (by omega)
            simp only [sumV, List.map_cons, List.sum_cons] at this ⊢
            omega
theorem sumV_nonneg {vs : List VarT} (h : ∀ x ∈ vs, 1 ≤ x.2 ∧ x.2 ≤ 48) : 0 ≤ sumV vs := by
  induction vs with
  | nil => simp [sumV]
  | cons x r ih =>
    have h1 := h x (by simp)
    have h2 := ih fun y hy => h y (List.mem_cons_of_mem _ hy)
    simp only [sumV, List.map_cons, List.sum_cons] at h2 ⊢
    omega
theorem sumV_append (a b : List VarT) : sumV (a ++ b) = sumV a + sumV b := by simp [sumV]
theorem sumV_take_succ {vs : List VarT} {i : Nat} {x : VarT} (h : vs[i]? = some x) : sumV (vs.take (i + 1)) = sumV (vs.take i) + x.2 := by
  obtain ⟨hlt, e⟩ := List.getElem?_eq_some_iff.1 h
  rw [List.take_succ_eq_append_getElem hlt, sumV_append, e]
  simp [sumV]
theorem sumV_take_le {vs : List VarT} (h : ∀ x ∈ vs, 1 ≤ x.2 ∧ x.2 ≤ 48) {i j : Nat} (hij : i ≤ j) : sumV (vs.take i) ≤ sumV (vs.take j) := by
  have e : vs.take j = vs.take i ++ (vs.take j).drop i := by
    have e := List.take_append_drop i (vs.take j)
    rw [List.take_take, Nat.min_eq_left hij] at e
    exact e.symm
  rw [e, sumV_append]
  have := sumV_nonneg (vs := (vs.take j).drop i) fun x hx => h x (List.mem_of_mem_take (List.mem_of_mem_drop hx))
  omega
end E
end Go.Proofs.Ytpbdjpoohpocfab
