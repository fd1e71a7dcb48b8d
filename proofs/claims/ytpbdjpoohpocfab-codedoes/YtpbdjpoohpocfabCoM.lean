/- Mathematics of a check that is handed part by part: what one look tells, and that the looks one behind the other are what chkE, chkS tell. -/
import Derived.Test.YtpbdjpoohpocfabTreeB
namespace Go.Proofs.Ytpbdjpoohpocfab
set_option maxRecDepth 20000
set_option maxHeartbeats 4000000
namespace E

def knownE (op : Int) : Bool := decide (0 ≤ partsOf op)
def fitsE (op n : Int) (len : Nat) : Bool := decide ((len : Int) = partsOf op) && (op == 1 || n == 0)
def namedE (op : Int) : Bool := op == 2 || op == 3
def knownS (op : Int) : Bool := decide (1 ≤ op) && decide (op ≤ 7)
def fitsS (op : Int) (e f : ET) (lb lo : Nat) : Bool := (((needE op || zeroE e) && (needF op || zeroE f)) && (needB op || (lb : Int) == 0)) && (needO op || (lo : Int) == 0)

/-- What a look tells of one part, with k parts met ahead of it. -/
def lookK (nv k : Nat) (deep : Int) (known fits named : Bool) (v : Int) : Int :=
  if deep > 12 then 4 else if k + 1 > 150 then 3 else if known = false then 2 else if fits = false then 5 else varK nv v named

theorem look_room {nv k : Nat} {deep : Int} {a b c : Bool} {v : Int} (h : lookK nv k deep a b c v = 0) : k + 1 ≤ 150 ∧ deep ≤ 12 := by
  unfold lookK at h
  split at h
  · cases h
  · split at h
    · cases h
    · omega

theorem ownE_look (nv : Nat) (op v n : Int) (len : Nat) : ownE nv op v n len = if knownE op = false then 2 else if fitsE op n len = false then 5 else varK nv v (namedE op) := by
  unfold ownE knownE fitsE namedE
  by_cases h1 : partsOf op < 0
  · have : ¬ 0 ≤ partsOf op := by omega
    simp [h1, this]
  · have h1' : 0 ≤ partsOf op := by omega
    simp only [h1, if_false, h1', decide_true, Bool.true_eq_false]
    by_cases h2 : (len : Int) = partsOf op
    · by_cases h3 : op = 1
      · simp [h2, h3]
      · by_cases h4 : n = 0
        · simp [h2, h3, h4]
        · simp [h2, h3, h4]
    · have h2' : partsOf op ≠ (len : Int) := fun h => h2 h.symm
      simp [h2, h2']
theorem ownS_look (nv : Nat) (op v : Int) (e f : ET) (lb lo : Nat) : ownS nv op v e f lb lo = if knownS op = false then 2 else if fitsS op e f lb lo = false then 5 else varK nv v (needV op) := by
  unfold ownS knownS fitsS
  by_cases h1 : op < 1 ∨ op > 7
  · rw [if_pos h1, if_pos]
    simp
    omega
  · have hk : (decide (1 ≤ op) && decide (op ≤ 7)) = true := by simp; omega
    rw [if_neg h1, hk]
    simp only [Bool.true_eq_false, if_false]
    have e1 : ((lb : Int) == 0) = !decide (0 < lb) := by rw [Bool.eq_iff_iff]; simp
    have e2 : ((lo : Int) == 0) = !decide (0 < lo) := by rw [Bool.eq_iff_iff]; simp
    rw [e1, e2]
    cases needE op <;> cases zeroE e <;> cases needF op <;> cases zeroE f <;> cases needB op <;> cases decide (0 < lb) <;> cases needO op <;> cases decide (0 < lo) <;> rfl

theorem chkE_look (nv deep k : Nat) (op v n : Int) (l : List ET) : chkE nv (.mk op v n l) deep k = if lookK nv k deep (knownE op) (fitsE op n l.length) (namedE op) v ≠ 0 then .error (lookK nv k deep (knownE op) (fitsE op n l.length) (namedE op) v) else chkEs nv l (deep + 1) (k + 1) := by
  simp only [chkE, headK, lookK]
  by_cases h1 : deep > 12
  · have h1' : (deep : Int) > 12 := by omega
    simp [h1, h1', nextK]
  · have h1' : ¬ (deep : Int) > 12 := by omega
    by_cases h2 : k + 1 > 150
    · simp only [h1, h1', h2, if_true, if_false, nextK]
      rfl
    · simp only [h1, h1', h2, if_false, nextK, ownE_look]
theorem chkS_look (nv deep k : Nat) (op v : Int) (e f : ET) (b o : List ST) : chkS nv (.mk op v e f b o) deep k = if lookK nv k deep (knownS op) (fitsS op e f b.length o.length) (needV op) v ≠ 0 then .error (lookK nv k deep (knownS op) (fitsS op e f b.length o.length) (needV op) v) else
    nextK (if needE op then chkE nv e (deep + 1) (k + 1) else .ok (k + 1)) fun k2 => nextK (if needF op then chkE nv f (deep + 1) k2 else .ok k2) fun k3 => nextK (chkSs nv b (deep + 1) k3) fun k4 => chkSs nv o (deep + 1) k4 := by
  simp only [chkS, headK, lookK]
  by_cases h1 : deep > 12
  · have h1' : (deep : Int) > 12 := by omega
    simp [h1, h1', nextK]
  · have h1' : ¬ (deep : Int) > 12 := by omega
    by_cases h2 : k + 1 > 150
    · simp only [h1, h1', h2, if_true, if_false, nextK]
      rfl
    · simp only [h1, h1', h2, if_false, nextK, ownS_look]

/-- The expressions of a statement. -/
def els (op : Int) (e f : ET) : List ET := (if needE op then [e] else []) ++ (if needF op then [f] else [])
theorem nextK_assoc (x : Except Int Nat) (f g : Nat → Except Int Nat) : nextK (nextK x f) g = nextK x fun k => nextK (f k) g := by cases x <;> rfl
theorem nextK_one (k : Nat) (f : Nat → Except Int Nat) : nextK (.ok k) f = f k := rfl
theorem nextK_id (x : Except Int Nat) : nextK x (fun k => .ok k) = x := by cases x <;> rfl
theorem chkEs_els (nv : Nat) (op : Int) (e f : ET) (d k : Nat) : chkEs nv (els op e f) d k = nextK (if needE op then chkE nv e d k else .ok k) fun k2 => if needF op then chkE nv f d k2 else .ok k2 := by
  unfold els
  cases needE op <;> cases needF op <;> simp [chkEs, nextK_one, nextK_id]
theorem chkS_parts (nv deep k : Nat) (op v : Int) (e f : ET) (b o : List ST) (h : lookK nv k deep (knownS op) (fitsS op e f b.length o.length) (needV op) v = 0) : chkS nv (.mk op v e f b o) deep k =
    nextK (chkEs nv (els op e f) (deep + 1) (k + 1)) fun k3 => nextK (chkSs nv b (deep + 1) k3) fun k4 => chkSs nv o (deep + 1) k4 := by
  rw [chkS_look, if_neg (by simp [h]), chkEs_els, nextK_assoc]

theorem chkEs_append (nv : Nat) : ∀ (a b : List ET) (d k : Nat), chkEs nv (a ++ b) d k = nextK (chkEs nv a d k) fun k1 => chkEs nv b d k1
  | [], b, d, k => by simp [chkEs, nextK]
  | t :: r, b, d, k => by
    simp only [List.cons_append, chkEs, nextK_assoc]
    congr 1
    funext k1
    exact chkEs_append nv r b d k1
theorem chkSs_append (nv : Nat) : ∀ (a b : List ST) (d k : Nat), chkSs nv (a ++ b) d k = nextK (chkSs nv a d k) fun k1 => chkSs nv b d k1
  | [], b, d, k => by simp [chkSs, nextK]
  | t :: r, b, d, k => by
    simp only [List.cons_append, chkSs, nextK_assoc]
    congr 1
    funext k1
    exact chkSs_append nv r b d k1
theorem chkEs_at {nv d k ki i : Nat} {l : List ET} {t : ET} (ht : l[i]? = some t) (h : chkEs nv (l.take i) d k = .ok ki) :
    chkEs nv (l.take (i + 1)) d k = chkE nv t d ki ∧ ∀ c, chkE nv t d ki = .error c → chkEs nv l d k = .error c := by
  obtain ⟨hlt, e⟩ := List.getElem?_eq_some_iff.1 ht
  refine ⟨?_, fun c hc => ?_⟩
  · rw [List.take_succ_eq_append_getElem hlt, chkEs_append, h, e]
    simp only [nextK, chkEs]
    exact nextK_id _
  · have : l = l.take i ++ t :: l.drop (i + 1) := by rw [← e, ← List.drop_eq_getElem_cons hlt, List.take_append_drop]
    rw [this, chkEs_append, h]
    simp only [nextK, chkEs, hc]
theorem chkSs_at {nv d k ki i : Nat} {l : List ST} {t : ST} (ht : l[i]? = some t) (h : chkSs nv (l.take i) d k = .ok ki) :
    chkSs nv (l.take (i + 1)) d k = chkS nv t d ki ∧ ∀ c, chkS nv t d ki = .error c → chkSs nv l d k = .error c := by
  obtain ⟨hlt, e⟩ := List.getElem?_eq_some_iff.1 ht
  refine ⟨?_, fun c hc => ?_⟩
  · rw [List.take_succ_eq_append_getElem hlt, chkSs_append, h, e]
    simp only [nextK, chkSs]
    exact nextK_id _
  · have : l = l.take i ++ t :: l.drop (i + 1) := by rw [← e, ← List.drop_eq_getElem_cons hlt, List.take_append_drop]
    rw [this, chkSs_append, h]
    simp only [nextK, chkSs, hc]

/-! ### No more parts than may be -/
def Lid (f : Nat → Except Int Nat) : Prop := ∀ k k', k ≤ 150 → f k = .ok k' → k' ≤ 150
mutual
theorem boundE (nv : Nat) : ∀ t d, Lid (chkE nv t d)
  | .mk op v n l, d => fun k k' hk h => by
    rw [chkE_look] at h
    split at h
    · cases h
    · rename_i hz
      have := (look_room (by simpa using hz)).1
      exact boundEs nv l (d + 1) (k + 1) k' this h
theorem boundEs (nv : Nat) : ∀ l d, Lid (chkEs nv l d)
  | [], d => fun k k' hk h => by
    simp only [chkEs] at h
    injection h with h
    omega
  | t :: r, d => fun k k' hk h => by
    simp only [chkEs] at h
    obtain ⟨k1, h1, h2⟩ := nextK_ok h
    exact boundEs nv r d k1 k' (boundE nv t d k k1 hk h1) h2
end
mutual
theorem boundS (nv : Nat) : ∀ t d, Lid (chkS nv t d)
  | .mk op v e f b o, d => fun k k' hk h => by
    by_cases hz : lookK nv k d (knownS op) (fitsS op e f b.length o.length) (needV op) v = 0
    · rw [chkS_parts _ _ _ _ _ _ _ _ _ hz] at h
      obtain ⟨k1, h1, h2⟩ := nextK_ok h
      obtain ⟨k2, h3, h4⟩ := nextK_ok h2
      have := (look_room hz).1
      exact boundSs nv o (d + 1) k2 k' (boundSs nv b (d + 1) k1 k2 (boundEs nv _ (d + 1) (k + 1) k1 this h1) h3) h4
    · rw [chkS_look, if_pos hz] at h
      cases h
theorem boundSs (nv : Nat) : ∀ l d, Lid (chkSs nv l d)
  | [], d => fun k k' hk h => by
    simp only [chkSs] at h
    injection h with h
    omega
  | t :: r, d => fun k k' hk h => by
    simp only [chkSs] at h
    obtain ⟨k1, h1, h2⟩ := nextK_ok h
    exact boundSs nv r d k1 k' (boundS nv t d k k1 hk h1) h2
end
end E
end Go.Proofs.Ytpbdjpoohpocfab
