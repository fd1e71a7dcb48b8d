/- Several texts in one: CodeM, ParM, RwA, PrtM. -/
import Derived.Test.YtbojicehfbeepadDoorJ03
import Derived.Test.YtbojicehfbeepadDoorJ02
/- Plain mathematics of programs: what is one, and what its fault is. -/
namespace Go.Proofs.YtbojicehfbeepadDoor
set_option maxRecDepth 20000
set_option maxHeartbeats 4000000
namespace E

abbrev VarT := ByteArray × Int

def partsOf (op : Int) : Int := if op = 1 ∨ op = 2 then 0 else if op = 3 then 1 else if 4 ≤ op ∧ op ≤ 8 then 2 else -1
def needE (op : Int) : Bool := op == 1 || op == 2 || op == 3 || op == 5 || op == 6
def needF (op : Int) : Bool := op == 2
def needV (op : Int) : Bool := op == 1 || op == 2 || op == 4
def needB (op : Int) : Bool := op == 5 || op == 6
def needO (op : Int) : Bool := op == 6
def letter (c : UInt8) : Bool := decide (97 ≤ c.toNat) && decide (c.toNat ≤ 122)
def nameOk (s : ByteArray) : Bool := s.data.toList.all letter && decide (1 ≤ s.size) && decide (s.size ≤ 8)

/-- A part is met: the number of parts behind it, or a code. -/
def headK (deep k : Nat) : Except Int Nat := if deep > 12 then .error 4 else if k + 1 > 150 then .error 3 else .ok (k + 1)
def varK (nv : Nat) (v : Int) (has : Bool) : Int := if has then (if v < 0 ∨ v ≥ (nv : Int) then 1 else 0) else (if v ≠ 0 then 5 else 0)
def zeroE : ET → Bool
  | .mk op v n l => op == 0 && v == 0 && n == 0 && l.isEmpty

def nextK (x : Except Int Nat) (f : Nat → Except Int Nat) : Except Int Nat := match x with
  | .error c => .error c
  | .ok k => f k

/-- The fault of an expression's own. -/
def ownE (nv : Nat) (op v n : Int) (len : Nat) : Int :=
  if partsOf op < 0 then 2 else if partsOf op ≠ (len : Int) then 5 else if op ≠ 1 ∧ n ≠ 0 then 5 else varK nv v (op == 2 || op == 3)
/-- The fault of a statement's own. -/
def ownS (nv : Nat) (op v : Int) (e f : ET) (lb lo : Nat) : Int :=
  if op < 1 ∨ op > 7 then 2
  else if (!needE op && !zeroE e || !needF op && !zeroE f) = true then 5
  else if (!needB op && decide (0 < lb) || !needO op && decide (0 < lo)) = true then 5
  else varK nv v (needV op)

mutual
def chkE (nv : Nat) : ET → Nat → Nat → Except Int Nat
  | .mk op v n l, deep, k => nextK (headK deep k) fun k1 => if ownE nv op v n l.length ≠ 0 then .error (ownE nv op v n l.length) else chkEs nv l (deep + 1) k1
def chkEs (nv : Nat) : List ET → Nat → Nat → Except Int Nat
  | [], _, k => .ok k
  | t :: r, deep, k => nextK (chkE nv t deep k) fun k1 => chkEs nv r deep k1
end
mutual
def chkS (nv : Nat) : ST → Nat → Nat → Except Int Nat
  | .mk op v e f b o, deep, k => nextK (headK deep k) fun k1 => if ownS nv op v e f b.length o.length ≠ 0 then .error (ownS nv op v e f b.length o.length) else
      nextK (if needE op then chkE nv e (deep + 1) k1 else .ok k1) fun k2 => nextK (if needF op then chkE nv f (deep + 1) k2 else .ok k2) fun k3 =>
        nextK (chkSs nv b (deep + 1) k3) fun k4 => chkSs nv o (deep + 1) k4
def chkSs (nv : Nat) : List ST → Nat → Nat → Except Int Nat
  | [], _, k => .ok k
  | t :: r, deep, k => nextK (chkS nv t deep k) fun k1 => chkSs nv r deep k1
end

def codeOf : Except Int Nat → Int
  | .error c => c
  | .ok _ => 0

def chkV (done : List ByteArray) (n : Int) : List VarT → Int
  | [] => 0
  | x :: r => if nameOk x.1 = false then 8 else if (done.any fun s => s.toList == x.1.toList) = true then 9 else if x.2 < 1 ∨ x.2 > 48 ∨ n + x.2 > 48 then 1 else chkV (done ++ [x.1]) (n + x.2) r
def progFault (vs : List VarT) (body : List ST) : Int :=
  if vs.length > 8 then 3 else if chkV [] 0 vs ≠ 0 then chkV [] 0 vs else codeOf (chkSs vs.length body 0 0)

/-- How many cells the first ones have. -/
def sumV (vs : List VarT) : Int := (vs.map (·.2)).sum
def cellOf (vs : List VarT) (v : Int) : Int := sumV (vs.take v.toNat)

/-! ### The same? -/
mutual
def eqE : ET → ET → Bool
  | .mk op v n l, .mk op' v' n' l' => op == op' && v == v' && n == n' && eqEs l l'
def eqEs : List ET → List ET → Bool
  | [], [] => true
  | t :: r, t' :: r' => eqE t t' && eqEs r r'
  | _, _ => false
end
mutual
def eqS : ST → ST → Bool
  | .mk op v e f b o, .mk op' v' e' f' b' o' => op == op' && v == v' && eqE e e' && eqE f f' && eqSs b b' && eqSs o o'
def eqSs : List ST → List ST → Bool
  | [], [] => true
  | t :: r, t' :: r' => eqS t t' && eqSs r r'
  | _, _ => false
end
def eqV (a b : VarT) : Bool := a.1.toList == b.1.toList && a.2 == b.2
def eqVs : List VarT → List VarT → Bool
  | [], [] => true
  | t :: r, t' :: r' => eqV t t' && eqVs r r'
  | _, _ => false
def eqP (vs : List VarT) (b : List ST) (vs' : List VarT) (b' : List ST) : Bool := eqVs vs vs' && eqSs b b'

mutual
theorem eqE_refl : ∀ t, eqE t t = true
  | .mk op v n l => by simp [eqE, eqEs_refl l]
theorem eqEs_refl : ∀ l, eqEs l l = true
  | [] => by simp [eqEs]
  | t :: r => by simp [eqEs, eqE_refl t, eqEs_refl r]
end
mutual
theorem eqS_refl : ∀ t, eqS t t = true
  | .mk op v e f b o => by simp [eqS, eqE_refl, eqSs_refl b, eqSs_refl o]
theorem eqSs_refl : ∀ l, eqSs l l = true
  | [] => by simp [eqSs]
  | t :: r => by simp [eqSs, eqS_refl t, eqSs_refl r]
end
theorem eqVs_refl : ∀ l, eqVs l l = true
  | [] => rfl
  | t :: r => by simp [eqVs, eqV, eqVs_refl r]
theorem eqP_refl (vs : List VarT) (b : List ST) : eqP vs b vs b = true := by simp [eqP, eqVs_refl, eqSs_refl]

/-! ### What is less is a program, too -/
theorem nextK_ok {x : Except Int Nat} {f : Nat → Except Int Nat} {k' : Nat} (h : nextK x f = .ok k') : ∃ k, x = .ok k ∧ f k = .ok k' := by
  cases x with
  | error c => cases h
  | ok k => exact ⟨k, rfl, h⟩
theorem headK_ok {deep k k' : Nat} (h : headK deep k = .ok k') : k' = k + 1 ∧ deep ≤ 12 ∧ k + 1 ≤ 150 := by
  unfold headK at h
  split at h
  · cases h
  · split at h
    · cases h
    · injection h with h
      omega
theorem headK_mk {deep k : Nat} (h1 : deep ≤ 12) (h2 : k + 1 ≤ 150) : headK deep k = .ok (k + 1) := by
  unfold headK
  rw [if_neg (by omega), if_neg (by omega)]

/-- What is one stays one where there is more room; it has so many parts. -/
def Roomy (f : Nat → Nat → Except Int Nat) : Prop := ∀ d k k', f d k = .ok k' → ∃ c, k' = k + c ∧ ∀ d' m, d' ≤ d → m ≤ k → f d' m = .ok (m + c)

theorem Roomy.ok : Roomy fun _ k => .ok k := fun d k k' h => by
  injection h with h
  exact ⟨0, by omega, fun _ _ _ _ => rfl⟩
theorem Roomy.next {f g : Nat → Nat → Except Int Nat} (hf : Roomy f) (hg : Roomy g) : Roomy fun d k => nextK (f d k) fun k1 => g d k1 := fun d k k' h => by
  obtain ⟨k1, h1, h2⟩ := nextK_ok h
  obtain ⟨c1, e1, m1⟩ := hf d k k1 h1
  obtain ⟨c2, e2, m2⟩ := hg d k1 k' h2
  refine ⟨c1 + c2, by omega, fun d' m hd hm => ?_⟩
  show nextK (f d' m) (fun k1 => g d' k1) = _
  rw [m1 d' m hd hm]
  show g d' (m + c1) = _
  rw [m2 d' (m + c1) hd (by omega), Nat.add_assoc]
theorem Roomy.deeper {f : Nat → Nat → Except Int Nat} (hf : Roomy f) : Roomy fun d k => f (d + 1) k := fun d k k' h => by
  obtain ⟨c, e, m⟩ := hf (d + 1) k k' h
  exact ⟨c, e, fun d' m' hd hm => m (d' + 1) m' (by omega) hm⟩
theorem Roomy.head : Roomy headK := fun d k k' h => by
  obtain ⟨e, h1, h2⟩ := headK_ok h
  exact ⟨1, e, fun d' m hd hm => headK_mk (by omega) (by omega)⟩
theorem Roomy.unless {f : Nat → Nat → Except Int Nat} (c : Int) (hf : Roomy f) : Roomy fun d k => if c ≠ 0 then .error c else f d k := by
  by_cases h : c = 0
  · simp only [h, ne_eq, not_true_eq_false, if_false]
    exact hf
  · intro d k k' e
    simp only [ne_eq, h, not_false_eq_true, if_true] at e
    cases e
theorem Roomy.ite {f : Nat → Nat → Except Int Nat} (b : Bool) (hf : Roomy f) : Roomy fun d k => if b then f d k else .ok k := by
  cases b
  · exact Roomy.ok
  · exact hf

mutual
theorem roomyE (nv : Nat) : ∀ t, Roomy (chkE nv t)
  | .mk op v n l => by
    have := Roomy.next Roomy.head (Roomy.unless (ownE nv op v n l.length) (roomyEs nv l).deeper)
    intro d k k' h
    simp only [chkE] at h ⊢
    exact this d k k' h
theorem roomyEs (nv : Nat) : ∀ l, Roomy (chkEs nv l)
  | [] => by
    intro d k k' h
    simp only [chkEs] at h ⊢
    exact Roomy.ok d k k' h
  | t :: r => by
    have := Roomy.next (roomyE nv t) (roomyEs nv r)
    intro d k k' h
    simp only [chkEs] at h ⊢
    exact this d k k' h
end
mutual
theorem roomyS (nv : Nat) : ∀ t, Roomy (chkS nv t)
  | .mk op v e f b o => by
    have := Roomy.next Roomy.head (Roomy.unless (ownS nv op v e f b.length o.length) (Roomy.next (Roomy.ite (needE op) (roomyE nv e).deeper) (Roomy.next (Roomy.ite (needF op) (roomyE nv f).deeper) (Roomy.next (roomySs nv b).deeper (roomySs nv o).deeper))))
    intro d k k' h
    simp only [chkS] at h ⊢
    exact this d k k' h
theorem roomySs (nv : Nat) : ∀ l, Roomy (chkSs nv l)
  | [] => by
    intro d k k' h
    simp only [chkSs] at h ⊢
    exact Roomy.ok d k k' h
  | t :: r => by
    have := Roomy.next (roomyS nv t) (roomySs nv r)
    intro d k k' h
    simp only [chkSs] at h ⊢
    exact this d k k' h
end

/-- Some statements, in their order. -/
theorem chkSs_sub (nv : Nat) {l l' : List ST} (hs : l'.Sublist l) : ∀ {d k k' : Nat}, chkSs nv l d k = .ok k' → ∃ k2, chkSs nv l' d k = .ok k2 ∧ k2 ≤ k' := by
  induction hs with
  | slnil => intro d k k' h; exact ⟨k', h, Nat.le_refl _⟩
  | cons a _ ih =>
    intro d k k' h
    simp only [chkSs] at h
    obtain ⟨k1, h1, h2⟩ := nextK_ok h
    obtain ⟨c, e, _⟩ := roomyS nv a d k k1 h1
    obtain ⟨k2, h3, hle⟩ := ih h2
    obtain ⟨c2, e2, m2⟩ := roomySs nv _ d k1 k2 h3
    exact ⟨k + c2, m2 d k (Nat.le_refl _) (by omega), by omega⟩
  | cons_cons a _ ih =>
    intro d k k' h
    simp only [chkSs] at h ⊢
    obtain ⟨k1, h1, h2⟩ := nextK_ok h
    obtain ⟨k2, h3, hle⟩ := ih h2
    exact ⟨k2, by rw [h1]; exact h3, hle⟩

theorem chkS_in (nv : Nat) {op v : Int} {e f : ET} {b o : List ST} {d k k' : Nat} (h : chkS nv (.mk op v e f b o) d k = .ok k') : (∃ k2, chkSs nv b 0 0 = .ok k2) ∧ ∃ k2, chkSs nv o 0 0 = .ok k2 := by
  simp only [chkS] at h
  obtain ⟨k1, _, h⟩ := nextK_ok h
  split at h
  · cases h
  · obtain ⟨k2, _, h⟩ := nextK_ok h
    obtain ⟨k3, _, h⟩ := nextK_ok h
    obtain ⟨k4, hb, ho⟩ := nextK_ok h
    obtain ⟨c, _, m⟩ := roomySs nv b _ _ _ hb
    obtain ⟨c', _, m'⟩ := roomySs nv o _ _ _ ho
    exact ⟨⟨_, m 0 0 (by omega) (by omega)⟩, ⟨_, m' 0 0 (by omega) (by omega)⟩⟩
theorem chkSs_mem (nv : Nat) {l : List ST} {s : ST} (hs : s ∈ l) : ∀ {d k k' : Nat}, chkSs nv l d k = .ok k' → ∃ k1 k2, chkS nv s d k1 = .ok k2 := by
  induction l with
  | nil => cases hs
  | cons a r ih =>
    intro d k k' h
    simp only [chkSs] at h
    obtain ⟨k1, h1, h2⟩ := nextK_ok h
    rcases List.mem_cons.1 hs with rfl | hs
    · exact ⟨k, k1, h1⟩
    · exact ih hs h2
theorem codeOf_ok {x : Except Int Nat} (h : codeOf x = 0) (hne : ∀ c, x = .error c → c ≠ 0) : ∃ k, x = .ok k := by
  cases x with
  | error c => exact absurd h (hne c rfl)
  | ok k => exact ⟨k, rfl⟩

/-! ### Codes are not 0 -/
def Coded (x : Except Int Nat) : Prop := ∀ c, x = .error c → c ≠ 0
theorem coded_next {x : Except Int Nat} {f : Nat → Except Int Nat} (hx : Coded x) (hf : ∀ k, Coded (f k)) : Coded (nextK x f) := by
  cases x with
  | error c => exact fun c' h => hx c' h
  | ok k => exact hf k
theorem coded_ok (k : Nat) : Coded (.ok k) := fun c h => by cases h
theorem coded_head (d k : Nat) : Coded (headK d k) := by
  unfold headK
  split
  · intro c h; cases h; decide
  · split
    · intro c h; cases h; decide
    · exact coded_ok _
theorem coded_unless {c : Int} {x : Except Int Nat} (hx : Coded x) : Coded (if c ≠ 0 then .error c else x) := by
  split
  · rename_i h
    intro c' e
    cases e
    exact h
  · exact hx
mutual
theorem codedE (nv : Nat) : ∀ t d k, Coded (chkE nv t d k)
  | .mk op v n l, d, k => by
    simp only [chkE]
    exact coded_next (coded_head d k) fun k1 => coded_unless (codedEs nv l _ _)
theorem codedEs (nv : Nat) : ∀ l d k, Coded (chkEs nv l d k)
  | [], d, k => by simp only [chkEs]; exact coded_ok k
  | t :: r, d, k => by
    simp only [chkEs]
    exact coded_next (codedE nv t d k) fun k1 => codedEs nv r d k1
end
theorem coded_ite {b : Bool} {x y : Except Int Nat} (hx : Coded x) (hy : Coded y) : Coded (if b then x else y) := by cases b <;> assumption
mutual
theorem codedS (nv : Nat) : ∀ t d k, Coded (chkS nv t d k)
  | .mk op v e f b o, d, k => by
    simp only [chkS]
    exact coded_next (coded_head d k) fun k1 => coded_unless (coded_next (coded_ite (codedE nv e _ _) (coded_ok _)) fun k2 => coded_next (coded_ite (codedE nv f _ _) (coded_ok _)) fun k3 => coded_next (codedSs nv b _ _) fun k4 => codedSs nv o _ _)
theorem codedSs (nv : Nat) : ∀ l d k, Coded (chkSs nv l d k)
  | [], d, k => by simp only [chkSs]; exact coded_ok k
  | t :: r, d, k => by
    simp only [chkSs]
    exact coded_next (codedS nv t d k) fun k1 => codedSs nv r d k1
end

/-- A program's body, and what is less. -/
theorem progFault_ok {vs : List VarT} {body : List ST} (h : progFault vs body = 0) : vs.length ≤ 8 ∧ chkV [] 0 vs = 0 ∧ ∃ k, chkSs vs.length body 0 0 = .ok k := by
  unfold progFault at h
  split at h
  · cases h
  · split at h
    · rename_i h1
      exact absurd h h1
    · rename_i h1 h2
      exact ⟨by omega, by simpa using h2, codeOf_ok h (codedSs _ _ _ _)⟩
theorem progFault_mk {vs : List VarT} {body : List ST} (h1 : vs.length ≤ 8) (h2 : chkV [] 0 vs = 0) {k : Nat} (h3 : chkSs vs.length body 0 0 = .ok k) : progFault vs body = 0 := by
  unfold progFault
  rw [if_neg (by omega), if_neg (by simp [h2]), h3]
  rfl
theorem progFault_sub {vs : List VarT} {body body' : List ST} (h : progFault vs body = 0) (hs : body'.Sublist body) : progFault vs body' = 0 := by
  obtain ⟨h1, h2, k, h3⟩ := progFault_ok h
  obtain ⟨k2, h4, _⟩ := chkSs_sub vs.length hs h3
  exact progFault_mk h1 h2 h4
theorem progFault_in {vs : List VarT} {body : List ST} {op v : Int} {e f : ET} {b o : List ST} (h : progFault vs body = 0) (hs : .mk op v e f b o ∈ body) : progFault vs b = 0 ∧ progFault vs o = 0 := by
  obtain ⟨h1, h2, k, h3⟩ := progFault_ok h
  obtain ⟨k1, k2, h4⟩ := chkSs_mem vs.length hs h3
  obtain ⟨⟨_, h5⟩, ⟨_, h6⟩⟩ := chkS_in vs.length h4
  exact ⟨progFault_mk h1 h2 h5, progFault_mk h1 h2 h6⟩

/-! ### Cells -/
theorem chkV_sizes : ∀ {vs : List VarT} {done : List ByteArray} {n : Int}, chkV done n vs = 0 → (∀ x ∈ vs, 1 ≤ x.2 ∧ x.2 ≤ 48) ∧ (n ≤ 48 → n + sumV vs ≤ 48)
  | [], _, n, _ => by simp [sumV]
  | x :: r, done, n, h => by
    unfold chkV at h
    split at h
    · cases h
    · split at h
      · cases h
      · split at h
        · cases h
        · rename_i h3
          obtain ⟨h4, h5⟩ := chkV_sizes h
          refine ⟨fun y hy => ?_, fun _ => ?_⟩
          · rcases List.mem_cons.1 hy with rfl | hy
            · omega
            · exact h4 y hy
          · have := h5 (by omega)
            simp only [sumV, List.map_cons, List.sum_cons] at this ⊢
            omega
theorem sumV_nonneg {vs : List VarT} (h : ∀ x ∈ vs, 1 ≤ x.2 ∧ x.2 ≤ 48) : 0 ≤ sumV vs := by
  induction vs with
  | nil => simp [sumV]
  | cons x r ih =>
    have h1 := h x (by simp)
    have h2 := ih fun y hy => h y (List.mem_cons_of_mem _ hy)
    simp only [sumV, List.map_cons, List.sum_cons] at h2 ⊢
    omega
theorem sumV_append (a b : List VarT) : sumV (a ++ b) = sumV a + sumV b := by simp [sumV]
theorem sumV_take_succ {vs : List VarT} {i : Nat} {x : VarT} (h : vs[i]? = some x) : sumV (vs.take (i + 1)) = sumV (vs.take i) + x.2 := by
  obtain ⟨hlt, e⟩ := List.getElem?_eq_some_iff.1 h
  rw [List.take_succ_eq_append_getElem hlt, sumV_append, e]
  simp [sumV]
theorem sumV_take_le {vs : List VarT} (h : ∀ x ∈ vs, 1 ≤ x.2 ∧ x.2 ≤ 48) {i j : Nat} (hij : i ≤ j) : sumV (vs.take i) ≤ sumV (vs.take j) := by
  have e : vs.take j = vs.take i ++ (vs.take j).drop i := by
    have e := List.take_append_drop i (vs.take j)
    rw [List.take_take, Nat.min_eq_left hij] at e
    exact e.symm
  rw [e, sumV_append]
  have := sumV_nonneg (vs := (vs.take j).drop i) fun x hx => h x (List.mem_of_mem_take (List.mem_of_mem_drop hx))
  omega

/-! ### The same, one by one -/
theorem eqEs_len : ∀ {a b : List ET}, eqEs a b = true → a.length = b.length
  | [], [], _ => rfl
  | [], _ :: _, h => by simp [eqEs] at h
  | _ :: _, [], h => by simp [eqEs] at h
  | x :: r, y :: s, h => by
    simp only [eqEs, Bool.and_eq_true] at h
    simp [eqEs_len h.2]
theorem eqSs_len : ∀ {a b : List ST}, eqSs a b = true → a.length = b.length
  | [], [], _ => rfl
  | [], _ :: _, h => by simp [eqSs] at h
  | _ :: _, [], h => by simp [eqSs] at h
  | x :: r, y :: s, h => by
    simp only [eqSs, Bool.and_eq_true] at h
    simp [eqSs_len h.2]
theorem eqEs_ne {a b : List ET} (h : a.length ≠ b.length) : eqEs a b = false := by
  cases h' : eqEs a b with
  | false => rfl
  | true => exact absurd (eqEs_len h') h
theorem eqSs_ne {a b : List ST} (h : a.length ≠ b.length) : eqSs a b = false := by
  cases h' : eqSs a b with
  | false => rfl
  | true => exact absurd (eqSs_len h') h
theorem eqEs_nil {a b : List ET} (h : a.length = 0) (h' : b.length = 0) : eqEs a b = true := by
  rw [List.eq_nil_of_length_eq_zero h, List.eq_nil_of_length_eq_zero h']
  rfl
theorem eqSs_nil {a b : List ST} (h : a.length = 0) (h' : b.length = 0) : eqSs a b = true := by
  rw [List.eq_nil_of_length_eq_zero h, List.eq_nil_of_length_eq_zero h']
  rfl
theorem eqEs_append : ∀ {a c b d : List ET}, a.length = c.length → eqEs (a ++ b) (c ++ d) = (eqEs a c && eqEs b d)
  | [], [], _, _, _ => by simp [eqEs]
  | x :: r, y :: s, b, d, h => by
    have := eqEs_append (a := r) (c := s) (b := b) (d := d) (by simpa using h)
    simp only [List.cons_append, eqEs, this, Bool.and_assoc]
  | [], _ :: _, _, _, h => by simp at h
  | _ :: _, [], _, _, h => by simp at h
theorem eqEs_take {a b : List ET} (h : a.length = b.length) {i : Nat} {x y : ET} (hx : a[i]? = some x) (hy : b[i]? = some y) : eqEs (a.take (i + 1)) (b.take (i + 1)) = (eqEs (a.take i) (b.take i) && eqE x y) := by
  obtain ⟨h1, e1⟩ := List.getElem?_eq_some_iff.1 hx
  obtain ⟨h2, e2⟩ := List.getElem?_eq_some_iff.1 hy
  rw [List.take_succ_eq_append_getElem h1, List.take_succ_eq_append_getElem h2, eqEs_append (by simp; omega), e1, e2]
  simp [eqEs]
theorem eqEs_split {a b : List ET} (h : a.length = b.length) {i : Nat} {x y : ET} (hx : a[i]? = some x) (hy : b[i]? = some y) : eqEs a b = ((eqEs (a.take i) (b.take i) && eqE x y) && eqEs (a.drop (i + 1)) (b.drop (i + 1))) := by
  rw [← eqEs_take h hx hy, ← eqEs_append (by simp; omega), List.take_append_drop, List.take_append_drop]

theorem eqSs_append : ∀ {a c b d : List ST}, a.length = c.length → eqSs (a ++ b) (c ++ d) = (eqSs a c && eqSs b d)
  | [], [], _, _, _ => by simp [eqSs]
  | x :: r, y :: s, b, d, h => by
    have := eqSs_append (a := r) (c := s) (b := b) (d := d) (by simpa using h)
    simp only [List.cons_append, eqSs, this, Bool.and_assoc]
  | [], _ :: _, _, _, h => by simp at h
  | _ :: _, [], _, _, h => by simp at h
theorem eqSs_take {a b : List ST} (h : a.length = b.length) {i : Nat} {x y : ST} (hx : a[i]? = some x) (hy : b[i]? = some y) : eqSs (a.take (i + 1)) (b.take (i + 1)) = (eqSs (a.take i) (b.take i) && eqS x y) := by
  obtain ⟨h1, e1⟩ := List.getElem?_eq_some_iff.1 hx
  obtain ⟨h2, e2⟩ := List.getElem?_eq_some_iff.1 hy
  rw [List.take_succ_eq_append_getElem h1, List.take_succ_eq_append_getElem h2, eqSs_append (by simp; omega), e1, e2]
  simp [eqSs]
theorem eqSs_split {a b : List ST} (h : a.length = b.length) {i : Nat} {x y : ST} (hx : a[i]? = some x) (hy : b[i]? = some y) : eqSs a b = ((eqSs (a.take i) (b.take i) && eqS x y) && eqSs (a.drop (i + 1)) (b.drop (i + 1))) := by
  rw [← eqSs_take h hx hy, ← eqSs_append (by simp; omega), List.take_append_drop, List.take_append_drop]
theorem eqVs_len : ∀ {a b : List VarT}, eqVs a b = true → a.length = b.length
  | [], [], _ => rfl
  | [], _ :: _, h => by simp [eqVs] at h
  | _ :: _, [], h => by simp [eqVs] at h
  | x :: r, y :: s, h => by
    simp only [eqVs, Bool.and_eq_true] at h
    simp [eqVs_len h.2]
theorem eqVs_append : ∀ {a c b d : List VarT}, a.length = c.length → eqVs (a ++ b) (c ++ d) = (eqVs a c && eqVs b d)
  | [], [], _, _, _ => by simp [eqVs]
  | x :: r, y :: s, b, d, h => by
    have := eqVs_append (a := r) (c := s) (b := b) (d := d) (by simpa using h)
    simp only [List.cons_append, eqVs, this, Bool.and_assoc]
  | [], _ :: _, _, _, h => by simp at h
  | _ :: _, [], _, _, h => by simp at h
theorem eqVs_take {a b : List VarT} (h : a.length = b.length) {i : Nat} {x y : VarT} (hx : a[i]? = some x) (hy : b[i]? = some y) : eqVs (a.take (i + 1)) (b.take (i + 1)) = (eqVs (a.take i) (b.take i) && eqV x y) := by
  obtain ⟨h1, e1⟩ := List.getElem?_eq_some_iff.1 hx
  obtain ⟨h2, e2⟩ := List.getElem?_eq_some_iff.1 hy
  rw [List.take_succ_eq_append_getElem h1, List.take_succ_eq_append_getElem h2, eqVs_append (by simp; omega), e1, e2]
  simp [eqVs]
theorem eqVs_split {a b : List VarT} (h : a.length = b.length) {i : Nat} {x y : VarT} (hx : a[i]? = some x) (hy : b[i]? = some y) : eqVs a b = ((eqVs (a.take i) (b.take i) && eqV x y) && eqVs (a.drop (i + 1)) (b.drop (i + 1))) := by
  rw [← eqVs_take h hx hy, ← eqVs_append (by simp; omega), List.take_append_drop, List.take_append_drop]
end E
end Go.Proofs.YtbojicehfbeepadDoor

/- Plain mathematics of reading: what program a list of tokens is, or its first fault; that places of tokens do not matter for it. -/
namespace Go.Proofs.YtbojicehfbeepadDoor
set_option maxRecDepth 20000
set_option maxHeartbeats 4000000
namespace E

abbrev Flt := Int × Int
def bnd {α β : Type} (x : Except Flt α) (f : α → Except Flt β) : Except Flt β := match x with
  | .error e => .error e
  | .ok a => f a

def wordT : Nat → List UInt8
  | 1 => [110, 117, 109]
  | 2 => [118, 97, 114]
  | 3 => [103, 101, 116]
  | 4 => [97, 100, 100]
  | 5 => [115, 117, 98]
  | 6 => [109, 117, 108]
  | 7 => [108, 101, 115, 115]
  | 8 => [115, 97, 109, 101]
  | _ => []
def verbT : Nat → List UInt8
  | 1 => [115, 101, 116]
  | 2 => [112, 117, 116]
  | 3 => [112, 114, 105, 110, 116]
  | 4 => [114, 101, 97, 100]
  | 5 => [119, 104, 105, 108, 101]
  | 6 => [105, 102]
  | 7 => [99, 111, 109, 109, 105, 116]
  | _ => []
def letT : List UInt8 := [108, 101, 116]

section
variable (ts : List Tok) (fin : Nat)

/-- A fault at the next token. -/
def wrongAt (code : Int) (i : Nat) : Flt := match ts[i]? with
  | some t => (code, (t.pos : Nat))
  | none => (if code = 5 then 6 else code, (fin : Nat))
def isT (i : Nat) (s : List UInt8) : Bool := match ts[i]? with
  | some t => !t.num && t.text == s
  | none => false
def mustP (s : List UInt8) (i : Nat) : Except Flt Nat := if isT ts i s then .ok (i + 1) else .error (wrongAt ts fin 5 i)
def numP (i : Nat) : Except Flt (Int × Nat) := match ts[i]? with
  | some t => if t.num then .ok (t.val, i + 1) else .error (wrongAt ts fin 5 i)
  | none => .error (wrongAt ts fin 5 i)
def nameB (l : List UInt8) : Bool := l.all letB && decide (1 ≤ l.length) && decide (l.length ≤ 8)
def nameP (i : Nat) : Except Flt (List UInt8 × Nat) := match ts[i]? with
  | some t => if nameB t.text then .ok (t.text, i + 1) else .error (wrongAt ts fin 5 i)
  | none => .error (wrongAt ts fin 5 i)
def findV : List VarT → List UInt8 → Option Nat
  | [], _ => none
  | x :: r, s => if x.1.data.toList == s then some 0 else (findV r s).map (· + 1)
def varP (vs : List VarT) (i : Nat) : Except Flt (Nat × Nat) :=
  bnd (nameP ts fin i) fun (s, j) => match findV vs s with
    | some k => .ok (k, j)
    | none => .error (wrongAt ts fin 10 i)
/-- The first kind from k on, n of them, whose text stands there. -/
def pickK (of : Nat → List UInt8) (i : Nat) : Nat → Nat → Option Nat
  | _, 0 => none
  | k, n + 1 => if isT ts i (of k) then some k else pickK of i (k + 1) n
def beginP (of : Nat → List UInt8) (most i : Nat) : Except Flt (Nat × Nat) :=
  bnd (mustP ts fin [40] i) fun j => match pickK ts of j 1 most with
    | some k => .ok (k, j + 1)
    | none => .error (wrongAt ts fin 5 j)

def manyP {α : Type} (one : Nat → Except Flt (α × Nat)) : Nat → Nat → Except Flt (List α × Nat)
  | 0, i => .ok ([], i)
  | m + 1, i => bnd (one i) fun (t, j) => bnd (manyP one m j) fun (r, k) => .ok (t :: r, k)
/-- Till a token; at most m. -/
def untilP {α : Type} (stop : Nat → Bool) (one : Nat → Except Flt (α × Nat)) : Nat → Nat → Except Flt (List α × Nat)
  | 0, _ => .error (0, 0)
  | m + 1, i => if stop i then .ok ([], i) else bnd (one i) fun (t, j) => bnd (untilP stop one m j) fun (r, k) => .ok (t :: r, k)

def exprP (vs : List VarT) : Nat → Nat → Except Flt (ET × Nat)
  | 0, i => .error (wrongAt ts fin 4 i)
  | f + 1, i => bnd (beginP ts fin wordT 8 i) fun (k, i1) =>
      bnd (if k = 1 then numP ts fin i1 else .ok (0, i1)) fun (n, i2) =>
      bnd (if k = 2 ∨ k = 3 then varP ts fin vs i2 else .ok (0, i2)) fun (v, i3) =>
      bnd (manyP (exprP vs f) (partsOf (k : Nat)).toNat i3) fun (l, i4) =>
      bnd (mustP ts fin [41] i4) fun i5 => .ok (.mk (k : Nat) (v : Nat) n l, i5)

def zeroT : ET := .mk 0 0 0 []
/-- Statements in brackets. -/
def listP (one : Nat → Except Flt (ST × Nat)) (i : Nat) : Except Flt (List ST × Nat) :=
  bnd (mustP ts fin [40] i) fun j => bnd (untilP (fun j => isT ts j [41]) one (ts.length + 1 - j) j) fun (l, k) => bnd (mustP ts fin [41] k) fun m => .ok (l, m)
def stmtP (vs : List VarT) : Nat → Nat → Except Flt (ST × Nat)
  | 0, i => .error (wrongAt ts fin 4 i)
  | f + 1, i => bnd (beginP ts fin verbT 7 i) fun (k, i1) =>
      bnd (if needV (k : Nat) then varP ts fin vs i1 else .ok (0, i1)) fun (v, i2) =>
      bnd (if needE (k : Nat) then exprP ts fin vs f i2 else .ok (zeroT, i2)) fun (e, i3) =>
      bnd (if needF (k : Nat) then exprP ts fin vs f i3 else .ok (zeroT, i3)) fun (g, i4) =>
      bnd (if needB (k : Nat) then listP ts fin (stmtP vs f) i4 else .ok ([], i4)) fun (b, i5) =>
      bnd (if needO (k : Nat) then listP ts fin (stmtP vs f) i5 else .ok ([], i5)) fun (o, i6) =>
      bnd (mustP ts fin [41] i6) fun i7 => .ok (.mk (k : Nat) (v : Nat) e g b o, i7)

def sizeP (n : Int) : Int := if 1 ≤ n ∧ n ≤ 48 then n else 0
def letP (i : Nat) : Except Flt (VarT × Nat) := bnd (nameP ts fin (i + 1)) fun (s, j) => bnd (numP ts fin j) fun (n, k) => .ok ((str s, sizeP n), k)
def letsP (i : Nat) : Except Flt (List VarT × Nat) := untilP (fun j => !isT ts j letT) (letP ts fin) (ts.length + 1 - i) i
def bodyP (vs : List VarT) (i : Nat) : Except Flt (List ST × Nat) := untilP (fun j => decide (ts.length ≤ j)) (stmtP ts fin vs 13) (ts.length + 1 - i) i
def readP : Except Flt (List VarT × List ST) := bnd (letsP ts fin 0) fun (vs, i) => bnd (bodyP ts fin vs i) fun (b, _) => .ok (vs, b)
def parseT : Except Flt (List VarT × List ST) := bnd (readP ts fin) fun (vs, b) => if progFault vs b ≠ 0 then .error (progFault vs b, -1) else .ok (vs, b)
end

/-! ### Places do not matter -/
/-- What is told of a token but its place. -/
def eq3 (a b : Tok) : Prop := a.text = b.text ∧ a.num = b.num ∧ a.val = b.val
def Like (ts us : List Tok) : Prop := ∀ i : Nat, (ts[i]? = none ∧ us[i]? = none) ∨ ∃ a b, ts[i]? = some a ∧ us[i]? = some b ∧ eq3 a b
theorem same3_like : ∀ (a b : List Tok), same3 a b → Like a b
  | [], [], _, i => .inl ⟨by simp, by simp⟩
  | a :: r, b :: s, h, 0 => .inr ⟨a, b, rfl, rfl, h.1, h.2.1, h.2.2.1⟩
  | a :: r, b :: s, h, i + 1 => by
    have := same3_like r s h.2.2.2 i
    simpa using this
theorem Like.length {ts us : List Tok} (h : Like ts us) : ts.length = us.length := by
  rcases Nat.lt_trichotomy ts.length us.length with hl | hl | hl
  · rcases h ts.length with ⟨_, h2⟩ | ⟨a, b, h1, _⟩
    · rw [List.getElem?_eq_none_iff] at h2; omega
    · rw [List.getElem?_eq_none (Nat.le_refl _)] at h1; cases h1
  · exact hl
  · rcases h us.length with ⟨h1, _⟩ | ⟨a, b, _, h2, _⟩
    · rw [List.getElem?_eq_none_iff] at h1; omega
    · rw [List.getElem?_eq_none (Nat.le_refl _)] at h2; cases h2

/-- Both the same, or both a fault. -/
def sim {α : Type} : Except Flt α → Except Flt α → Prop
  | .ok a, .ok b => a = b
  | .error _, .error _ => True
  | _, _ => False
theorem sim_ok {α : Type} (a : α) : sim (.ok a) (.ok a) := rfl
theorem sim_bnd {α β : Type} {x y : Except Flt α} {f g : α → Except Flt β} (h : sim x y) (hf : ∀ a, sim (f a) (g a)) : sim (bnd x f) (bnd y g) := by
  cases x <;> cases y
  · exact trivial
  · exact h.elim
  · exact h.elim
  · cases h
    exact hf _
theorem sim_ite {α : Type} (p : Prop) [Decidable p] {x y x' y' : Except Flt α} (h : sim x y) (h' : sim x' y') : sim (if p then x else x') (if p then y else y') := by
  split
  · exact h
  · exact h'

section
variable {ts us : List Tok} {m n : Nat}
theorem isT_like (h : Like ts us) (i : Nat) (s : List UInt8) : isT ts i s = isT us i s := by
  unfold isT
  rcases h i with ⟨h1, h2⟩ | ⟨a, b, h1, h2, e1, e2, _⟩
  · rw [h1, h2]
  · rw [h1, h2]
    simp only [e1, e2]
theorem mustP_like (h : Like ts us) (s : List UInt8) (i : Nat) : sim (mustP ts m s i) (mustP us n s i) := by
  unfold mustP
  rw [isT_like h]
  exact sim_ite _ (sim_ok _) trivial
theorem numP_like (h : Like ts us) (i : Nat) : sim (numP ts m i) (numP us n i) := by
  unfold numP
  rcases h i with ⟨h1, h2⟩ | ⟨a, b, h1, h2, e1, e2, e3⟩
  · rw [h1, h2]; exact trivial
  · rw [h1, h2]
    simp only [e2, e3]
    exact sim_ite _ (sim_ok _) trivial
theorem nameP_like (h : Like ts us) (i : Nat) : sim (nameP ts m i) (nameP us n i) := by
  unfold nameP
  rcases h i with ⟨h1, h2⟩ | ⟨a, b, h1, h2, e1, e2, e3⟩
  · rw [h1, h2]; exact trivial
  · rw [h1, h2]
    simp only [e1]
    exact sim_ite _ (sim_ok _) trivial
theorem varP_like (h : Like ts us) (vs : List VarT) (i : Nat) : sim (varP ts m vs i) (varP us n vs i) := by
  unfold varP
  refine sim_bnd (nameP_like h i) fun (s, j) => ?_
  dsimp only
  cases findV vs s
  · exact trivial
  · exact rfl
theorem pickK_like (h : Like ts us) (of : Nat → List UInt8) (i : Nat) : ∀ (c k : Nat), pickK ts of i k c = pickK us of i k c
  | 0, _ => rfl
  | c + 1, k => by
    unfold pickK
    rw [isT_like h, pickK_like h of i c]
theorem beginP_like (h : Like ts us) (of : Nat → List UInt8) (most i : Nat) : sim (beginP ts m of most i) (beginP us n of most i) := by
  unfold beginP
  refine sim_bnd (mustP_like h _ i) fun j => ?_
  rw [pickK_like h]
  cases pickK us of j 1 most
  · exact trivial
  · exact rfl
theorem manyP_like {α : Type} {f g : Nat → Except Flt (α × Nat)} (hf : ∀ i, sim (f i) (g i)) : ∀ (c i : Nat), sim (manyP f c i) (manyP g c i)
  | 0, _ => rfl
  | c + 1, i => sim_bnd (hf i) fun (_, j) => sim_bnd (manyP_like hf c j) fun _ => sim_ok _
theorem untilP_like {α : Type} {st st' : Nat → Bool} {f g : Nat → Except Flt (α × Nat)} (hs : ∀ i, st i = st' i) (hf : ∀ i, sim (f i) (g i)) : ∀ (c i : Nat), sim (untilP st f c i) (untilP st' g c i)
  | 0, _ => trivial
  | c + 1, i => by
    unfold untilP
    rw [hs]
    exact sim_ite _ (sim_ok _) (sim_bnd (hf i) fun (_, j) => sim_bnd (untilP_like hs hf c j) fun _ => sim_ok _)
theorem exprP_like (h : Like ts us) (vs : List VarT) : ∀ (f i : Nat), sim (exprP ts m vs f i) (exprP us n vs f i)
  | 0, _ => trivial
  | f + 1, i => sim_bnd (beginP_like h _ _ i) fun (_, i1) => sim_bnd (sim_ite _ (numP_like h i1) (sim_ok _)) fun (_, i2) => sim_bnd (sim_ite _ (varP_like h vs i2) (sim_ok _)) fun (_, i3) =>
      sim_bnd (manyP_like (exprP_like h vs f) _ i3) fun (_, i4) => sim_bnd (mustP_like h _ i4) fun _ => sim_ok _
theorem listP_like (h : Like ts us) {f g : Nat → Except Flt (ST × Nat)} (hf : ∀ i, sim (f i) (g i)) (i : Nat) : sim (listP ts m f i) (listP us n g i) := by
  unfold listP
  rw [h.length]
  exact sim_bnd (mustP_like h _ i) fun j => sim_bnd (untilP_like (fun i => isT_like h i _) hf _ j) fun (_, k) => sim_bnd (mustP_like h _ k) fun _ => sim_ok _
theorem stmtP_like (h : Like ts us) (vs : List VarT) : ∀ (f i : Nat), sim (stmtP ts m vs f i) (stmtP us n vs f i)
  | 0, _ => trivial
  | f + 1, i => sim_bnd (beginP_like h _ _ i) fun (_, i1) => sim_bnd (sim_ite _ (varP_like h vs i1) (sim_ok _)) fun (_, i2) => sim_bnd (sim_ite _ (exprP_like h vs f i2) (sim_ok _)) fun (_, i3) =>
      sim_bnd (sim_ite _ (exprP_like h vs f i3) (sim_ok _)) fun (_, i4) => sim_bnd (sim_ite _ (listP_like h (stmtP_like h vs f) i4) (sim_ok _)) fun (_, i5) =>
      sim_bnd (sim_ite _ (listP_like h (stmtP_like h vs f) i5) (sim_ok _)) fun (_, i6) => sim_bnd (mustP_like h _ i6) fun _ => sim_ok _
theorem letP_like (h : Like ts us) (i : Nat) : sim (letP ts m i) (letP us n i) := sim_bnd (nameP_like h _) fun (_, j) => sim_bnd (numP_like h j) fun _ => sim_ok _
theorem readP_like (h : Like ts us) : sim (readP ts m) (readP us n) := by
  unfold readP letsP bodyP
  rw [h.length]
  refine sim_bnd (untilP_like (fun i => by rw [isT_like h]) (letP_like h) _ 0) fun (vs, i) => ?_
  exact sim_bnd (untilP_like (fun _ => rfl) (stmtP_like h vs 13) _ i) fun _ => sim_ok _
theorem parseT_like (h : Like ts us) : sim (parseT ts m) (parseT us n) := by
  unfold parseT
  refine sim_bnd (readP_like h) fun (vs, b) => ?_
  exact sim_ite _ trivial (sim_ok _)
end
theorem sim_eq {α : Type} {x y : Except Flt α} {a : α} (h : sim x y) (hx : x = .ok a) : y = .ok a := by
  subst hx
  cases y with
  | error _ => exact h.elim
  | ok b => cases h; rfl

/-! ### What is read goes on, and ends where there are tokens -/
theorem bnd_ok {α β : Type} {x : Except Flt α} {f : α → Except Flt β} {b : β} (h : bnd x f = .ok b) : ∃ a, x = .ok a ∧ f a = .ok b := by
  cases x with
  | error e => cases h
  | ok a => exact ⟨a, rfl, h⟩
section
variable {ts : List Tok} {fin : Nat}
theorem isT_lt {i : Nat} {s : List UInt8} (h : isT ts i s = true) : i < ts.length := by
  unfold isT at h
  split at h
  · rename_i t ht; exact (List.getElem?_eq_some_iff.1 ht).1
  · cases h
theorem mustP_ok {s : List UInt8} {i j : Nat} (h : mustP ts fin s i = .ok j) : j = i + 1 ∧ i < ts.length ∧ isT ts i s = true := by
  unfold mustP at h
  split at h
  · rename_i ht
    injection h with h
    exact ⟨h.symm, isT_lt ht, ht⟩
  · cases h
theorem numP_ok {i : Nat} {r : Int × Nat} (h : numP ts fin i = .ok r) : r.2 = i + 1 ∧ i < ts.length := by
  unfold numP at h
  split at h
  · rename_i t ht
    split at h
    · injection h with h; subst h; exact ⟨rfl, (List.getElem?_eq_some_iff.1 ht).1⟩
    · cases h
  · cases h
theorem nameP_ok {i : Nat} {r : List UInt8 × Nat} (h : nameP ts fin i = .ok r) : r.2 = i + 1 ∧ i < ts.length := by
  unfold nameP at h
  split at h
  · rename_i t ht
    split at h
    · injection h with h; subst h; exact ⟨rfl, (List.getElem?_eq_some_iff.1 ht).1⟩
    · cases h
  · cases h
theorem varP_ok {vs : List VarT} {i : Nat} {r : Nat × Nat} (h : varP ts fin vs i = .ok r) : r.2 = i + 1 ∧ i < ts.length := by
  unfold varP at h
  obtain ⟨⟨s, j⟩, h1, h2⟩ := bnd_ok h
  have h3 := nameP_ok h1
  dsimp only at h2 h3
  split at h2
  · injection h2 with h2; subst h2; exact h3
  · cases h2
theorem pickK_ok {of : Nat → List UInt8} {i : Nat} : ∀ {n k r : Nat}, pickK ts of i k n = some r → k ≤ r ∧ r < k + n ∧ isT ts i (of r) = true
  | 0, _, _, h => by cases h
  | n + 1, k, r, h => by
    unfold pickK at h
    split at h
    · rename_i ht
      injection h with h
      subst h
      exact ⟨Nat.le_refl _, by omega, ht⟩
    · have := pickK_ok h
      exact ⟨by omega, by omega, this.2.2⟩
theorem beginP_ok {of : Nat → List UInt8} {most i : Nat} {r : Nat × Nat} (h : beginP ts fin of most i = .ok r) : r.2 = i + 2 ∧ i + 1 < ts.length ∧ 1 ≤ r.1 ∧ r.1 ≤ most := by
  unfold beginP at h
  obtain ⟨j, h1, h2⟩ := bnd_ok h
  obtain ⟨rfl, h3, _⟩ := mustP_ok h1
  split at h2
  · rename_i k hk
    injection h2 with h2
    subst h2
    have := pickK_ok hk
    exact ⟨rfl, isT_lt this.2.2, this.1, by omega⟩
  · cases h2
theorem manyP_ok {α : Type} {one : Nat → Except Flt (α × Nat)} (h1 : ∀ i r, one i = .ok r → i < r.2 ∧ r.2 ≤ ts.length) : ∀ (m i : Nat) (r : List α × Nat), i ≤ ts.length → manyP one m i = .ok r → i ≤ r.2 ∧ r.2 ≤ ts.length ∧ r.1.length = m
  | 0, i, r, hi, h => by
    injection h with h
    subst h
    exact ⟨Nat.le_refl _, hi, rfl⟩
  | m + 1, i, r, hi, h => by
    obtain ⟨⟨t, j⟩, ha, hb⟩ := bnd_ok h
    obtain ⟨⟨r', k⟩, hc, hd⟩ := bnd_ok hb
    injection hd with hd
    subst hd
    have e1 := h1 _ _ ha
    have e2 := manyP_ok h1 m j _ e1.2 hc
    dsimp only at e1 e2 ⊢
    simp only [List.length_cons]
    omega
theorem untilP_ok {α : Type} {st : Nat → Bool} {one : Nat → Except Flt (α × Nat)} (h1 : ∀ i r, one i = .ok r → i < r.2 ∧ r.2 ≤ ts.length) : ∀ (m i : Nat) (r : List α × Nat), i ≤ ts.length → untilP st one m i = .ok r → i ≤ r.2 ∧ r.2 ≤ ts.length ∧ st r.2 = true
  | 0, _, _, _, h => by cases h
  | m + 1, i, r, hi, h => by
    unfold untilP at h
    split at h
    · rename_i hs
      injection h with h
      subst h
      exact ⟨Nat.le_refl _, hi, hs⟩
    · obtain ⟨⟨t, j⟩, ha, hb⟩ := bnd_ok h
      obtain ⟨⟨r', k⟩, hc, hd⟩ := bnd_ok hb
      injection hd with hd
      subst hd
      have e1 := h1 _ _ ha
      have e2 := untilP_ok h1 m j _ e1.2 hc
      dsimp only at e1 e2 ⊢
      exact ⟨by omega, e2.2.1, e2.2.2⟩
/-- More fuel than tokens: all the same. -/
theorem untilP_fuel {α : Type} {st : Nat → Bool} {one : Nat → Except Flt (α × Nat)} (h1 : ∀ i r, one i = .ok r → i < r.2 ∧ r.2 ≤ ts.length) : ∀ (m n i : Nat), i ≤ ts.length → ts.length < m + i → ts.length < n + i → untilP st one m i = untilP st one n i
  | 0, _, _, _, h, _ => by omega
  | _ + 1, 0, _, _, _, h => by omega
  | m + 1, n + 1, i, hi, hm, hn => by
    unfold untilP
    split
    · rfl
    · cases ha : one i with
      | error e => rfl
      | ok r =>
        obtain ⟨t, j⟩ := r
        have e1 := h1 _ _ ha
        dsimp only at e1
        show bnd (untilP st one m j) _ = bnd (untilP st one n j) _
        rw [untilP_fuel h1 m n j e1.2 (by omega) (by omega)]

theorem exprP_ok (vs : List VarT) : ∀ (f i : Nat) (r : ET × Nat), exprP ts fin vs f i = .ok r → i < r.2 ∧ r.2 ≤ ts.length
  | 0, _, _, h => by cases h
  | f + 1, i, r, h => by
    unfold exprP at h
    obtain ⟨⟨k, i1⟩, h1, h⟩ := bnd_ok h
    obtain ⟨⟨n, i2⟩, h2, h⟩ := bnd_ok h
    obtain ⟨⟨v, i3⟩, h3, h⟩ := bnd_ok h
    obtain ⟨⟨l, i4⟩, h4, h⟩ := bnd_ok h
    obtain ⟨i5, h5, h⟩ := bnd_ok h
    injection h with h
    subst h
    have e1 := beginP_ok h1
    dsimp only at e1 h2 h3 h4 h5 ⊢
    have e2 : i1 ≤ i2 ∧ i2 ≤ ts.length := by
      split at h2
      · have := numP_ok h2; dsimp only at this; omega
      · injection h2 with h2; injection h2 with _ h2; omega
    have e3 : i2 ≤ i3 ∧ i3 ≤ ts.length := by
      split at h3
      · have := varP_ok h3; dsimp only at this; omega
      · injection h3 with h3; injection h3 with _ h3; omega
    have e4 := manyP_ok (exprP_ok vs f) _ _ _ e3.2 h4
    have e5 := mustP_ok h5
    dsimp only at e4
    omega
theorem listP_ok {one : Nat → Except Flt (ST × Nat)} (hone : ∀ i r, one i = .ok r → i < r.2 ∧ r.2 ≤ ts.length) {i : Nat} {r : List ST × Nat} (h : listP ts fin one i = .ok r) : i < r.2 ∧ r.2 ≤ ts.length := by
  unfold listP at h
  obtain ⟨j, h1, h⟩ := bnd_ok h
  obtain ⟨⟨l, k⟩, h2, h⟩ := bnd_ok h
  obtain ⟨m, h3, h⟩ := bnd_ok h
  injection h with h
  subst h
  have e1 := mustP_ok h1
  have e2 := untilP_ok hone _ _ _ (by omega) h2
  have e3 := mustP_ok h3
  dsimp only at e2 ⊢
  omega
theorem stmtP_ok (vs : List VarT) : ∀ (f i : Nat) (r : ST × Nat), stmtP ts fin vs f i = .ok r → i < r.2 ∧ r.2 ≤ ts.length
  | 0, _, _, h => by cases h
  | f + 1, i, r, h => by
    unfold stmtP at h
    obtain ⟨⟨k, i1⟩, h1, h⟩ := bnd_ok h
    obtain ⟨⟨v, i2⟩, h2, h⟩ := bnd_ok h
    obtain ⟨⟨e, i3⟩, h3, h⟩ := bnd_ok h
    obtain ⟨⟨g, i4⟩, h4, h⟩ := bnd_ok h
    obtain ⟨⟨b, i5⟩, h5, h⟩ := bnd_ok h
    obtain ⟨⟨o, i6⟩, h6, h⟩ := bnd_ok h
    obtain ⟨i7, h7, h⟩ := bnd_ok h
    injection h with h
    subst h
    have e1 := beginP_ok h1
    dsimp only at e1 h2 h3 h4 h5 h6 h7 ⊢
    have e2 : i1 ≤ i2 ∧ i2 ≤ ts.length := by
      split at h2
      · have := varP_ok h2; dsimp only at this; omega
      · injection h2 with h2; injection h2 with _ h2; omega
    have e3 : i2 ≤ i3 ∧ i3 ≤ ts.length := by
      split at h3
      · have := exprP_ok vs f _ _ h3; dsimp only at this; omega
      · injection h3 with h3; injection h3 with _ h3; omega
    have e4 : i3 ≤ i4 ∧ i4 ≤ ts.length := by
      split at h4
      · have := exprP_ok vs f _ _ h4; dsimp only at this; omega
      · injection h4 with h4; injection h4 with _ h4; omega
    have e5 : i4 ≤ i5 ∧ i5 ≤ ts.length := by
      split at h5
      · have := listP_ok (stmtP_ok vs f) h5; dsimp only at this; omega
      · injection h5 with h5; injection h5 with _ h5; omega
    have e6 : i5 ≤ i6 ∧ i6 ≤ ts.length := by
      split at h6
      · have := listP_ok (stmtP_ok vs f) h6; dsimp only at this; omega
      · injection h6 with h6; injection h6 with _ h6; omega
    have e7 := mustP_ok h7
    omega
theorem letP_ok {i : Nat} {r : VarT × Nat} (h : letP ts fin i = .ok r) : i < r.2 ∧ r.2 ≤ ts.length := by
  unfold letP at h
  obtain ⟨⟨s, j⟩, h1, h⟩ := bnd_ok h
  obtain ⟨⟨n, k⟩, h2, h⟩ := bnd_ok h
  injection h with h
  subst h
  have e1 := nameP_ok h1
  have e2 := numP_ok h2
  dsimp only at e1 e2 ⊢
  omega
end

/-! ### More tokens behind -/
def Ext (ts us : List Tok) : Prop := ∃ vs, us = ts ++ vs
theorem Ext.get {ts us : List Tok} (h : Ext ts us) {i : Nat} (hi : i < ts.length) : us[i]? = ts[i]? := by
  obtain ⟨vs, rfl⟩ := h
  rw [List.getElem?_append_left hi]
theorem Ext.le {ts us : List Tok} (h : Ext ts us) : ts.length ≤ us.length := by
  obtain ⟨vs, rfl⟩ := h
  rw [List.length_append]; omega
def lesX {α : Type} (x y : Except Flt α) : Prop := ∀ a, x = .ok a → y = .ok a
theorem les_bnd {α β : Type} {x y : Except Flt α} {f g : α → Except Flt β} (h : lesX x y) (hf : ∀ a, lesX (f a) (g a)) : lesX (bnd x f) (bnd y g) := by
  intro b hb
  obtain ⟨a, h1, h2⟩ := bnd_ok hb
  rw [h a h1]
  exact hf a b h2
theorem les_refl {α : Type} (x : Except Flt α) : lesX x x := fun _ h => h
theorem les_err {α : Type} (e : Flt) (y : Except Flt α) : lesX (.error e) y := fun _ h => by cases h
theorem les_ite {α : Type} (p : Prop) [Decidable p] {x y x' y' : Except Flt α} (h : lesX x y) (h' : lesX x' y') : lesX (if p then x else x') (if p then y else y') := by
  split
  · exact h
  · exact h'
section
variable {ts us : List Tok} {m n : Nat}
theorem isT_ext (h : Ext ts us) {i : Nat} (hi : i < ts.length) (s : List UInt8) : isT us i s = isT ts i s := by
  unfold isT
  rw [h.get hi]
theorem mustP_ext (h : Ext ts us) (s : List UInt8) (i : Nat) : lesX (mustP ts m s i) (mustP us n s i) := by
  intro a ha
  obtain ⟨rfl, h1, h2⟩ := mustP_ok ha
  unfold mustP
  rw [isT_ext h h1, if_pos h2]
theorem numP_ext (h : Ext ts us) (i : Nat) : lesX (numP ts m i) (numP us n i) := by
  intro a ha
  have h1 := (numP_ok ha).2
  unfold numP at ha ⊢
  rw [h.get h1]
  split at ha
  · rename_i t ht
    split at ha
    · rename_i hn
      rw [if_pos hn]; exact ha
    · cases ha
  · cases ha
theorem nameP_ext (h : Ext ts us) (i : Nat) : lesX (nameP ts m i) (nameP us n i) := by
  intro a ha
  have h1 := (nameP_ok ha).2
  unfold nameP at ha ⊢
  rw [h.get h1]
  split at ha
  · rename_i t ht
    split at ha
    · rename_i hn
      rw [if_pos hn]; exact ha
    · cases ha
  · cases ha
theorem varP_ext (h : Ext ts us) (vs : List VarT) (i : Nat) : lesX (varP ts m vs i) (varP us n vs i) := by
  unfold varP
  refine les_bnd (nameP_ext h i) fun (s, j) => ?_
  dsimp only
  cases findV vs s
  · exact les_err _ _
  · exact les_refl _
theorem pickK_ext (h : Ext ts us) (of : Nat → List UInt8) {i : Nat} (hi : i < ts.length) : ∀ (c k : Nat), pickK us of i k c = pickK ts of i k c
  | 0, _ => rfl
  | c + 1, k => by
    unfold pickK
    rw [isT_ext h hi, pickK_ext h of hi c]
theorem beginP_ext (h : Ext ts us) (of : Nat → List UInt8) (most i : Nat) : lesX (beginP ts m of most i) (beginP us n of most i) := by
  intro a ha
  have h1 := (beginP_ok ha).2.1
  unfold beginP at ha ⊢
  obtain ⟨j, h2, h3⟩ := bnd_ok ha
  obtain ⟨rfl, _, _⟩ := mustP_ok h2
  rw [mustP_ext h (n := n) _ _ _ h2]
  show (match pickK us of (i + 1) 1 most with | some k => _ | none => _) = _
  rw [pickK_ext h of h1]
  split at h3
  · exact h3
  · cases h3
theorem manyP_ext {α : Type} {f g : Nat → Except Flt (α × Nat)} (hf : ∀ i, lesX (f i) (g i)) : ∀ (c i : Nat), lesX (manyP f c i) (manyP g c i)
  | 0, _ => les_refl _
  | c + 1, i => les_bnd (hf i) fun (_, j) => les_bnd (manyP_ext hf c j) fun _ => les_refl _
theorem untilP_ext {α : Type} {st st' : Nat → Bool} {f g : Nat → Except Flt (α × Nat)} (hs : ∀ i r, f i = .ok r → st' i = st i) (hf : ∀ i, lesX (f i) (g i)) (hst : ∀ i, st i = true → st' i = true) :
    ∀ (c d i : Nat), c ≤ d → lesX (untilP st f c i) (untilP st' g d i)
  | 0, _, _, _ => les_err _ _
  | c + 1, 0, _, h => by omega
  | c + 1, d + 1, i, hcd => by
    intro a ha
    unfold untilP at ha ⊢
    split at ha
    · rename_i h1
      rw [if_pos (hst i h1)]; exact ha
    · rename_i h1
      obtain ⟨⟨t, j⟩, h2, h3⟩ := bnd_ok ha
      rw [hs i _ h2, if_neg h1, hf i _ h2]
      exact les_bnd (untilP_ext hs hf hst c d j (by omega)) (fun _ => les_refl _) _ h3
theorem exprP_ext (h : Ext ts us) (vs : List VarT) : ∀ (f i : Nat), lesX (exprP ts m vs f i) (exprP us n vs f i)
  | 0, _ => les_err _ _
  | f + 1, i => les_bnd (beginP_ext h _ _ i) fun (_, i1) => les_bnd (les_ite _ (numP_ext h i1) (les_refl _)) fun (_, i2) => les_bnd (les_ite _ (varP_ext h vs i2) (les_refl _)) fun (_, i3) =>
      les_bnd (manyP_ext (exprP_ext h vs f) _ i3) fun (_, i4) => les_bnd (mustP_ext h _ i4) fun _ => les_refl _
theorem listP_ext (h : Ext ts us) {f g : Nat → Except Flt (ST × Nat)} (hf : ∀ i, lesX (f i) (g i)) (hok : ∀ i r, f i = .ok r → i < r.2 ∧ r.2 ≤ ts.length) (i : Nat) : lesX (listP ts m f i) (listP us n g i) := by
  unfold listP
  have hl := h.le
  refine les_bnd (mustP_ext h _ i) fun j => les_bnd (untilP_ext (fun i r hr => isT_ext h (by have := hok i r hr; omega) _) hf (fun i hi => by rw [isT_ext h (isT_lt hi)]; exact hi) _ _ j (by omega)) fun (_, k) => les_bnd (mustP_ext h _ k) fun _ => les_refl _
theorem stmtP_ext (h : Ext ts us) (vs : List VarT) : ∀ (f i : Nat), lesX (stmtP ts m vs f i) (stmtP us n vs f i)
  | 0, _ => les_err _ _
  | f + 1, i => les_bnd (beginP_ext h _ _ i) fun (_, i1) => les_bnd (les_ite _ (varP_ext h vs i1) (les_refl _)) fun (_, i2) => les_bnd (les_ite _ (exprP_ext h vs f i2) (les_refl _)) fun (_, i3) =>
      les_bnd (les_ite _ (exprP_ext h vs f i3) (les_refl _)) fun (_, i4) => les_bnd (les_ite _ (listP_ext h (stmtP_ext h vs f) (stmtP_ok vs f) i4) (les_refl _)) fun (_, i5) =>
      les_bnd (les_ite _ (listP_ext h (stmtP_ext h vs f) (stmtP_ok vs f) i5) (les_refl _)) fun (_, i6) => les_bnd (mustP_ext h _ i6) fun _ => les_refl _
theorem letP_ext (h : Ext ts us) (i : Nat) : lesX (letP ts m i) (letP us n i) := les_bnd (nameP_ext h _) fun (_, j) => les_bnd (numP_ext h j) fun _ => les_refl _
end
end E
end Go.Proofs.YtbojicehfbeepadDoor

/- Contracts of the document's WordOf, VerbOf. -/
namespace Go.Proofs.YtbojicehfbeepadDoor
set_option maxRecDepth 20000
set_option maxHeartbeats 4000000
namespace E
open Go.Proofs

def wordI (op : Int) : List UInt8 := if 1 ≤ op ∧ op ≤ 8 then wordT op.toNat else []
def verbI (op : Int) : List UInt8 := if 1 ≤ op ∧ op ≤ 7 then verbT op.toNat else []
theorem slice_word : sliceCells Tryd.prog 84 8 [(0, Value.string (str [110, 117, 109])), (1, Value.string (str [118, 97, 114])), (2, Value.string (str [103, 101, 116])), (3, Value.string (str [97, 100, 100])), (4, Value.string (str [115, 117, 98])), (5, Value.string (str [109, 117, 108])), (6, Value.string (str [108, 101, 115, 115])), (7, Value.string (str [115, 97, 109, 101]))] = some (9, ([Value.string (str [110, 117, 109]), Value.string (str [118, 97, 114]), Value.string (str [103, 101, 116]), Value.string (str [97, 100, 100]), Value.string (str [115, 117, 98]), Value.string (str [109, 117, 108]), Value.string (str [108, 101, 115, 115]), Value.string (str [115, 97, 109, 101])] : List Value).toArray) := by kernel_rfl
theorem wordR_ret (op : Int) (w : World) : Ret Tryd.prog 58 [.int .i64 op] w fun r w' => r = .string (str (wordI op)) ∧ Keep [] w w' := by
  refine ret_of 18 Tryd.func58 rfl rfl (by simp) ?_
  refine au ?_
  refine pl_op rfl rfl (opTo_sliceN _ _ rfl rfl slice_word ?_)
  intro w1 g hg hs1 hk1 hb1
  refine au ?_
  by_cases h1 : op < 1
  · refine aub ?_
    exact rn_ret Tryd.func58 (.inl ⟨_, rfl, rfl⟩) ⟨by unfold wordI; rw [if_neg (by omega)]; rfl, hk1⟩
  by_cases h2 : op > 8
  · refine aub ?_
    exact rn_ret Tryd.func58 (.inl ⟨_, rfl, rfl⟩) ⟨by unfold wordI; rw [if_neg (by omega)]; rfl, hk1⟩
  obtain ⟨j, rfl⟩ : ∃ j : Nat, op = ((j + 1 : Nat) : Int) := ⟨(op - 1).toNat, by omega⟩
  have hj : j < 8 := by omega
  refine aub ?_
  refine pl_num (((j : Nat) : Int)) rfl rfl rfl rfl rfl (by simp only [ariP]; omega) ?_
  refine pl_val _ rfl rfl (val_index j hT rfl rfl rfl rfl rfl hj w1) ?_
  have hcell : ([Value.string (str [110, 117, 109]), Value.string (str [118, 97, 114]), Value.string (str [103, 101, 116]), Value.string (str [97, 100, 100]), Value.string (str [115, 117, 98]), Value.string (str [109, 117, 108]), Value.string (str [108, 101, 115, 115]), Value.string (str [115, 97, 109, 101])] : List Value)[0 + j * 1]? = some (Value.string (str (wordI ((j + 1 : Nat) : Int)))) := by
    have : j = 0 ∨ j = 1 ∨ j = 2 ∨ j = 3 ∨ j = 4 ∨ j = 5 ∨ j = 6 ∨ j = 7 := by omega
    rcases this with rfl | rfl | rfl | rfl | rfl | rfl | rfl | rfl <;> rfl
  refine pl_val _ rfl rfl (val_load1 hT rfl rfl rfl (Blk.cell hb1 hcell)) ?_
  refine au ?_
  exact rn_ret Tryd.func58 (.inl ⟨_, rfl, rfl⟩) ⟨rfl, hk1⟩

theorem slice_verb : sliceCells Tryd.prog 84 7 [(0, Value.string (str [115, 101, 116])), (1, Value.string (str [112, 117, 116])), (2, Value.string (str [112, 114, 105, 110, 116])), (3, Value.string (str [114, 101, 97, 100])), (4, Value.string (str [119, 104, 105, 108, 101])), (5, Value.string (str [105, 102])), (6, Value.string (str [99, 111, 109, 109, 105, 116]))] = some (9, ([Value.string (str [115, 101, 116]), Value.string (str [112, 117, 116]), Value.string (str [112, 114, 105, 110, 116]), Value.string (str [114, 101, 97, 100]), Value.string (str [119, 104, 105, 108, 101]), Value.string (str [105, 102]), Value.string (str [99, 111, 109, 109, 105, 116])] : List Value).toArray) := by kernel_rfl
theorem verbR_ret (op : Int) (w : World) : Ret Tryd.prog 33 [.int .i64 op] w fun r w' => r = .string (str (verbI op)) ∧ Keep [] w w' := by
  refine ret_of 18 Tryd.func33 rfl rfl (by simp) ?_
  refine au ?_
  refine pl_op rfl rfl (opTo_sliceN _ _ rfl rfl slice_verb ?_)
  intro w1 g hg hs1 hk1 hb1
  refine au ?_
  by_cases h1 : op < 1
  · refine aub ?_
    exact rn_ret Tryd.func33 (.inl ⟨_, rfl, rfl⟩) ⟨by unfold verbI; rw [if_neg (by omega)]; rfl, hk1⟩
  by_cases h2 : op > 7
  · refine aub ?_
    exact rn_ret Tryd.func33 (.inl ⟨_, rfl, rfl⟩) ⟨by unfold verbI; rw [if_neg (by omega)]; rfl, hk1⟩
  obtain ⟨j, rfl⟩ : ∃ j : Nat, op = ((j + 1 : Nat) : Int) := ⟨(op - 1).toNat, by omega⟩
  have hj : j < 7 := by omega
  refine aub ?_
  refine pl_num (((j : Nat) : Int)) rfl rfl rfl rfl rfl (by simp only [ariP]; omega) ?_
  refine pl_val _ rfl rfl (val_index j hT rfl rfl rfl rfl rfl hj w1) ?_
  have hcell : ([Value.string (str [115, 101, 116]), Value.string (str [112, 117, 116]), Value.string (str [112, 114, 105, 110, 116]), Value.string (str [114, 101, 97, 100]), Value.string (str [119, 104, 105, 108, 101]), Value.string (str [105, 102]), Value.string (str [99, 111, 109, 109, 105, 116])] : List Value)[0 + j * 1]? = some (Value.string (str (verbI ((j + 1 : Nat) : Int)))) := by
    have : j = 0 ∨ j = 1 ∨ j = 2 ∨ j = 3 ∨ j = 4 ∨ j = 5 ∨ j = 6 := by omega
    rcases this with rfl | rfl | rfl | rfl | rfl | rfl | rfl <;> rfl
  refine pl_val _ rfl rfl (val_load1 hT rfl rfl rfl (Blk.cell hb1 hcell)) ?_
  refine au ?_
  exact rn_ret Tryd.func33 (.inl ⟨_, rfl, rfl⟩) ⟨rfl, hk1⟩

end E
end Go.Proofs.YtbojicehfbeepadDoor

/- Plain mathematics of printing: the text of a program, its tokens, and that they are read as the program that it was. -/
namespace Go.Proofs.YtbojicehfbeepadDoor
set_option maxRecDepth 20000
set_option maxHeartbeats 4000000
namespace E
open Go.Lib

/-! ### Scanning piece by piece -/
abbrev Tk := List UInt8 × Bool × Int
def tri (t : Tok) : Tk := (t.text, t.num, t.val)
/-- A token ends ahead of it. -/
def brk : List UInt8 → Bool
  | [] => true
  | c :: _ => blankB c || parenB c
theorem brk_let {c : UInt8} (h : (blankB c || parenB c) = true) : letB c = false ∧ dig c = false := by
  simp only [blankB, parenB, Bool.or_eq_true, beq_iff_eq] at h
  rcases h with (((rfl | rfl) | rfl) | rfl) | (rfl | rfl) <;> exact ⟨by decide, by decide⟩
theorem take_brk (p : UInt8 → Bool) (hp : ∀ c, (blankB c || parenB c) = true → p c = false) {q : List UInt8} (hq : brk q = true) : ∀ (r : List UInt8), (r ++ q).takeWhile p = r.takeWhile p
  | [] => by
    cases q with
    | nil => rfl
    | cons c q => rw [List.nil_append, List.takeWhile_cons_of_neg (by rw [hp c hq]; decide)]; rfl
  | c :: r => by
    by_cases hc : p c = true
    · rw [List.cons_append, List.takeWhile_cons_of_pos hc, List.takeWhile_cons_of_pos hc, take_brk p hp hq r]
    · rw [List.cons_append, List.takeWhile_cons_of_neg hc, List.takeWhile_cons_of_neg hc]
/-- What begins at a byte is the same with more behind it. -/
theorem bit_brk {q : List UInt8} (hq : brk q = true) (c : UInt8) (r : List UInt8) : bit c (r ++ q) = bit c r := by
  unfold bit
  rw [take_brk letB (fun c h => (brk_let h).1) hq, take_brk dig (fun c h => (brk_let h).2) hq]

/-- Text T has the tokens K, whatever stands behind it. -/
def Scans (T : List UInt8) (K : List Tk) : Prop := ∀ (f pos : Nat) (rest : List UInt8), brk rest = true → (T ++ rest).length ≤ f →
  ∃ us : List Tok, us.map tri = K ∧ ∀ acc, putT acc (toks f pos (T ++ rest)) = putT (acc ++ us) (toks f (pos + T.length) rest)

theorem scans_nil : Scans [] [] := fun f pos rest _ _ => ⟨[], rfl, fun acc => by simp⟩
theorem scans_app {T T' : List UInt8} {K K' : List Tk} (h : Scans T K) (h' : Scans T' K') (hb : brk T' = true ∨ T = []) : Scans (T ++ T') (K ++ K') := by
  intro f pos rest hr hl
  have hb2 : brk (T' ++ rest) = true ∨ T = [] := by
    rcases hb with hb | hb
    · left
      cases T' with
      | nil => exact hr
      | cons c r => exact hb
    · exact .inr hb
  rcases hb2 with hb2 | rfl
  · obtain ⟨us, h1, h2⟩ := h f pos (T' ++ rest) hb2 (by rw [List.append_assoc] at hl; exact hl)
    obtain ⟨us', h3, h4⟩ := h' f (pos + T.length) rest hr (by simp only [List.length_append] at hl ⊢; omega)
    refine ⟨us ++ us', by rw [List.map_append, h1, h3], fun acc => ?_⟩
    rw [List.append_assoc, h2, h4, List.append_assoc, List.length_append, Nat.add_assoc]
  · have hK : K = [] := by
      obtain ⟨us, h1, h2⟩ := h 0 0 [] rfl (Nat.le_refl _)
      have := h2 []
      simp only [List.nil_append, toks, putT, List.append_nil] at this
      injection this with this
      rw [← h1, ← this]
      rfl
    rw [hK]
    exact h' f pos rest hr hl
theorem scans_blank {c : UInt8} (h : blankB c = true) : Scans [c] [] := by
  intro f pos rest _ hl
  refine ⟨[], rfl, fun acc => ?_⟩
  rw [List.append_nil, List.singleton_append, toks_skip (bit_blank c rest h) hl]
  rfl
theorem scans_tok {c : UInt8} {u : List UInt8} {b : Bool} {v : Int} (h : bit c u = .tok (c :: u) b v) : Scans (c :: u) [(c :: u, b, v)] := by
  intro f pos rest hr hl
  have hb : bit c (u ++ rest) = .tok (c :: u) b v := by rw [bit_brk hr, h]
  refine ⟨[⟨pos, c :: u, b, v⟩], rfl, fun acc => ?_⟩
  rw [List.cons_append] at hl ⊢
  rw [putT_tok acc hb hl, ← List.cons_append, List.drop_left]
theorem scans_paren {c : UInt8} (h : parenB c = true) : Scans [c] [([c], false, 0)] := by
  have hb : blankB c = false := by
    simp only [parenB, Bool.or_eq_true, beq_iff_eq] at h
    rcases h with rfl | rfl <;> decide
  refine scans_tok ?_
  unfold bit
  rw [hb, h]
  rfl
theorem let_plain {c : UInt8} (h : letB c = true) : blankB c = false ∧ parenB c = false ∧ dig c = false ∧ (c == 45) = false := by
  have h2 := h
  simp only [letB, Bool.and_eq_true, decide_eq_true_eq] at h2
  refine ⟨?_, ?_, ?_, ?_⟩
  · cases hb : blankB c with
    | false => rfl
    | true => rw [(brk_let (by rw [hb]; rfl)).1] at h; cases h
  · cases hb : parenB c with
    | false => rfl
    | true => rw [(brk_let (by rw [hb, Bool.or_true])).1] at h; cases h
  · simp only [dig, Bool.and_eq_false_iff, decide_eq_false_iff_not]; omega
  · cases hc : c == 45 with
    | false => rfl
    | true =>
      simp only [beq_iff_eq] at hc
      subst hc
      exact absurd h2.1 (by decide)
theorem all_take {p : UInt8 → Bool} : ∀ {l : List UInt8}, l.all p = true → l.takeWhile p = l
  | [], _ => rfl
  | c :: r, h => by
    rw [List.all_cons, Bool.and_eq_true] at h
    rw [List.takeWhile_cons_of_pos h.1, all_take h.2]
theorem scans_word {w : List UInt8} (h : w.all letB = true) (h0 : 1 ≤ w.length) : Scans w [(w, false, 0)] := by
  cases w with
  | nil => simp at h0
  | cons c u =>
    rw [List.all_cons, Bool.and_eq_true] at h
    obtain ⟨h1, h2, h3, h4⟩ := let_plain h.1
    refine scans_tok ?_
    unfold bit
    rw [h1, h2, h.1, all_take h.2]
    rfl
theorem dig_plain {c : UInt8} (h : (dig c || c == 45) = true) : blankB c = false ∧ parenB c = false ∧ letB c = false := by
  have hn : blankB c = false ∧ parenB c = false := by
    constructor
    · cases hb : blankB c with
      | false => rfl
      | true =>
        simp only [blankB, Bool.or_eq_true, beq_iff_eq] at hb
        rcases hb with ((rfl | rfl) | rfl) | rfl <;> revert h <;> decide
    · cases hb : parenB c with
      | false => rfl
      | true =>
        simp only [parenB, Bool.or_eq_true, beq_iff_eq] at hb
        rcases hb with rfl | rfl <;> revert h <;> decide
  refine ⟨hn.1, hn.2, ?_⟩
  cases hl : letB c with
  | false => rfl
  | true =>
    have := let_plain hl
    rw [this.2.2.1, this.2.2.2] at h
    cases h
theorem itoa_form (n : Int) : ∃ c u, itoa n = c :: u ∧ (dig c || c == 45) = true ∧ u.all dig = true := by
  unfold itoa
  split
  · exact ⟨45, _, rfl, by decide, decDigits_digs _⟩
  · cases h : decDigits n.toNat with
    | nil => exact absurd h (decDigits_ne _)
    | cons c u =>
      have hd := decDigits_digs n.toNat
      rw [h, List.all_cons, Bool.and_eq_true] at hd
      exact ⟨c, u, rfl, by rw [hd.1]; rfl, hd.2⟩
theorem scans_num {n : Int} (h0 : -9223372036854775808 ≤ n) (h1 : n ≤ 9223372036854775807) : Scans (itoa n) [(itoa n, true, n)] := by
  obtain ⟨c, u, he, hc, hu⟩ := itoa_form n
  have hL := longOf_itoa n h0 h1
  rw [he] at hL ⊢
  obtain ⟨e1, e2, e3⟩ := dig_plain hc
  refine scans_tok ?_
  unfold bit
  rw [e1, e2, e3, hc, all_take hu, hL]
  rfl
/-- The tokens of the whole. -/
theorem scans_scan {T : List UInt8} {K : List Tk} (h : Scans T K) : ∃ us, scanOf T = .ok us ∧ us.map tri = K := by
  obtain ⟨us, h1, h2⟩ := h T.length 0 [] rfl (by simp)
  refine ⟨us, ?_, h1⟩
  have := h2 []
  rw [List.append_nil, putT_nil, List.nil_append] at this
  unfold scanOf
  rw [this]
  have e : toks T.length (0 + T.length) [] = .ok [] := by cases T.length <;> rfl
  rw [e]
  show Except.ok (us ++ []) = _
  rw [List.append_nil]
/-- What has tokens has them with more behind it, too. -/
theorem toks_scans : ∀ (f pos : Nat) (l : List UInt8) (ts : List Tok), toks f pos l = .ok ts → l.length ≤ f → ∀ (g : Nat) (q : Nat) (rest : List UInt8), brk rest = true → (l ++ rest).length ≤ g →
    ∃ us : List Tok, us.map tri = ts.map tri ∧ ∀ acc, putT acc (toks g q (l ++ rest)) = putT (acc ++ us) (toks g (q + l.length) rest)
  | f, pos, [], ts, h, _ => by
    intro g q rest _ _
    have h2 : ts = [] := by
      cases f <;> (simp only [toks] at h; injection h with h; exact h.symm)
    subst h2
    exact ⟨[], rfl, fun acc => by simp⟩
  | 0, _, _ :: _, _, h, _ => by simp only [toks] at h; cases h
  | f + 1, pos, c :: r, ts, h, hf => by
    intro g q rest hr hg
    simp only [List.length_cons] at hf
    rw [List.cons_append] at hg ⊢
    simp only [toks] at h
    have hbb := bit_brk hr c r
    cases hb : bit c r with
    | bad => rw [hb] at h; cases h
    | skip =>
      rw [hb] at h hbb
      obtain ⟨us, h1, h2⟩ := toks_scans f _ r ts h (by omega) g (q + 1) rest hr (by simp only [List.length_cons] at hg; omega)
      refine ⟨us, h1, fun acc => ?_⟩
      rw [toks_skip hbb hg, h2, List.length_cons, Nat.add_assoc, Nat.add_comm 1]
    | tok t b v =>
      rw [hb] at h hbb
      simp only at h
      obtain ⟨u, s, rfl, rfl, _⟩ := bit_tok hb
      have hd : (c :: (u ++ s)).drop (c :: u).length = s := by rw [← List.cons_append, List.drop_left]
      rw [hd] at h
      cases hx : toks f (pos + (c :: u).length) s with
      | error e => rw [hx] at h; cases h
      | ok l =>
        rw [hx] at h
        injection h with h
        subst h
        simp only [List.length_append] at hf
        obtain ⟨us, h1, h2⟩ := toks_scans f _ s l hx (by omega) g (q + (c :: u).length) rest hr (by simp only [List.length_cons, List.length_append] at hg ⊢; omega)
        refine ⟨⟨q, c :: u, b, v⟩ :: us, by simp only [List.map_cons, h1]; rfl, fun acc => ?_⟩
        have hd2 : (c :: (u ++ s ++ rest)).drop (c :: u).length = s ++ rest := by rw [List.append_assoc, ← List.cons_append, List.drop_left]
        rw [putT_tok acc hbb hg, hd2, h2, List.append_assoc]
        simp only [List.singleton_append, List.length_cons, List.length_append]
        congr 2
        omega
theorem scan_scans {l : List UInt8} {ts : List Tok} (h : scanOf l = .ok ts) : Scans l (ts.map tri) := fun f pos rest hr hl =>
  toks_scans _ _ l ts h (Nat.le_refl _) f pos rest hr hl
end E
end Go.Proofs.YtbojicehfbeepadDoor
