/- Several texts in one: BeU, EvM, EvN, EvO, EvQ, LiM, IdM, IdK, IdJ. -/
import Derived.Test.YtmdjgejahnmfmafJ03
import Derived.Test.YtmdjgejahnmfmafJ04
import Derived.Test.YtmdjgejahnmfmafJ02
/- The document's Being: Now, NewBeing; a program's instructions are in order. -/
namespace Go.Proofs.Ytmdjgejahnmfmaf
set_option maxRecDepth 20000
set_option maxHeartbeats 4000000
namespace E
open Go.Proofs

/-! ### A program's instructions are in order -/
mutual
theorem ops_E {vs : List VarT} : ∀ (t : ET) {d k k' : Nat}, chkE vs.length t d k = .ok k' → ∀ x ∈ insE vs t, 1 ≤ x.1 ∧ x.1 ≤ 15
  | .mk op v m l, d, k, k', h, x, hx => by
    obtain ⟨hd, h1, k1, h2⟩ := chkE_inv h
    obtain ⟨a1, a2, _⟩ := ownE_inv h1
    simp only [insE, List.mem_append, List.mem_singleton] at hx
    rcases hx with hx | rfl
    · exact ops_Es l h2 x hx
    · exact ⟨a1, by show op ≤ 15; omega⟩
theorem ops_Es {vs : List VarT} : ∀ (l : List ET) {d k k' : Nat}, chkEs vs.length l d k = .ok k' → ∀ x ∈ insEs vs l, 1 ≤ x.1 ∧ x.1 ≤ 15
  | [], _, _, _, _, x, hx => by simp [insEs] at hx
  | t :: r, d, k, k', h, x, hx => by
    obtain ⟨⟨k1, h1⟩, k2, h2⟩ := chkEs_inv h
    simp only [insEs, List.mem_append] at hx
    rcases hx with hx | hx
    · exact ops_E t h1 x hx
    · exact ops_Es r h2 x hx
end
mutual
theorem ops_S {vs : List VarT} : ∀ (t : ST) {d k k' : Nat}, chkS vs.length t d k = .ok k' → ∀ (i0 : Nat), ∀ x ∈ insS vs t i0, 1 ≤ x.1 ∧ x.1 ≤ 15
  | .mk op v e f b o, d, k, k', h, i0, x, hx => by
    obtain ⟨hd, h1, h2, h3, ⟨k1, k2, h4⟩, k3, k4, h5⟩ := chkS_inv h
    have ne : ∀ x ∈ eI vs op e, 1 ≤ x.1 ∧ x.1 ≤ 15 := by
      unfold eI
      split
      · rename_i hn
        obtain ⟨_, _, hc⟩ := h2 hn
        exact ops_E e hc
      · simp
    have nf : ∀ x ∈ fI vs op f, 1 ≤ x.1 ∧ x.1 ≤ 15 := by
      unfold fI
      split
      · rename_i hn
        obtain ⟨_, _, hc⟩ := h3 hn
        exact ops_E f hc
      · simp
    have jb := fun i => ops_Ss b h4 i
    have jo := fun i => ops_Ss o h5 i
    simp only [insS] at hx
    split at hx
    · simp only [whileI, List.mem_append, List.mem_cons, List.not_mem_nil, or_false] at hx
      rcases hx with hx | rfl | hx | rfl
      · exact ne x hx
      · exact ⟨by show (1 : Int) ≤ 13; decide, by show (13 : Int) ≤ 15; decide⟩
      · exact jb _ x hx
      · exact ⟨by show (1 : Int) ≤ 14; decide, by show (14 : Int) ≤ 15; decide⟩
    · split at hx
      · simp only [ifI, List.mem_append, List.mem_cons] at hx
        rcases hx with hx | rfl | hx | rfl | hx
        · exact ne x hx
        · exact ⟨by show (1 : Int) ≤ 13; decide, by show (13 : Int) ≤ 15; decide⟩
        · exact jb _ x hx
        · exact ⟨by show (1 : Int) ≤ 14; decide, by show (14 : Int) ≤ 15; decide⟩
        · exact jo _ x hx
      · simp only [List.mem_append, List.mem_singleton] at hx
        rcases hx with hx | hx | rfl
        · exact ne x hx
        · exact nf x hx
        · unfold lastI
          (repeat' split) <;> simp
theorem ops_Ss {vs : List VarT} : ∀ (l : List ST) {d k k' : Nat}, chkSs vs.length l d k = .ok k' → ∀ (i0 : Nat), ∀ x ∈ insSs vs l i0, 1 ≤ x.1 ∧ x.1 ≤ 15
  | [], _, _, _, _, _, x, hx => by simp [insSs] at hx
  | t :: r, d, k, k', h, i0, x, hx => by
    obtain ⟨⟨k1, h1⟩, k2, h2⟩ := chkSs_inv h
    simp only [insSs, List.mem_append] at hx
    rcases hx with hx | hx
    · exact ops_S t h1 i0 x hx
    · exact ops_Ss r h2 _ x hx
end
theorem prog_prg {vs : List VarT} {body : List ST} (h : progFault vs body = 0) (hsz : szSs body ≤ 1000) : ∃ c : Nat, (c : Int) = sumV vs ∧ c ≤ 48 ∧ Prg c (insSs vs body 0) := by
  obtain ⟨_, hbig, _, h0, h48⟩ := prog_fit h
  obtain ⟨_, _, k, hc⟩ := progFault_ok h
  have e : ((sumV vs).toNat : Int) = sumV vs := by omega
  have hl := insSs_len vs body 0
  exact ⟨(sumV vs).toNat, e, by omega, by rw [e]; exact sim_Ss hbig body hc 0, by rw [e]; exact jmp_Ss hbig body hc 0, ops_Ss body hc 0, by omega, by omega⟩

/-! ### Now -/
def codeB (m : Md) (p : Pr) : Int := if p.2 then 15 else if m.state = 0 then 13 else if m.state > 1 then (m.state : Int) - 2 else 0
def resC (c : Int) (o l : Value) : List Value := [.int .i64 c, o, l]
theorem zero_re : ((Try.prog.info? 31).bind (·.zero)).map (·.cells) = some (resC 0 (.slice none 0 0) (.slice none 0 0)).toArray := by kernel_rfl
theorem size_re : sizeOk Try.prog 31 3 = true := by kernel_rfl
theorem built_re (a b : Option Addr) (n c m d : Nat) : Try.prog.built 31 [(1, .slice a n c), (2, .slice b m d)] = some (resC 0 (.slice a n c) (.slice b m d)).toArray := by kernel_rfl
theorem resC_one (c : Int) (a b : Option Addr) (n k m d : Nat) : ∀ u ∈ resC c (.slice a n k) (.slice b m d), u.oneCell' = true := by
  intro u hu
  simp only [resC, List.mem_cons, List.not_mem_nil, or_false] at hu
  rcases hu with rfl | rfl | rfl <;> rfl
end E
end Go.Proofs.Ytmdjgejahnmfmaf

/- Plain mathematics of what a program says: its expressions and statements evaluated, instruction by instruction counted; that the document's machine does just that. -/
namespace Go.Proofs.Ytmdjgejahnmfmaf
set_option maxRecDepth 20000
set_option maxHeartbeats 4000000
namespace E

/-- How far it is: instructions done, numbers read, what was printed, the cells. -/
structure Es where
  n : Nat
  read : Nat
  out : List Int
  cells : List Int
abbrev Ex (α : Type) := Except (Nat × Es) α
def bndX {α β : Type} (x : Ex α) (f : α → Ex β) : Ex β := match x with
  | .error e => .error e
  | .ok a => f a
/-- One instruction: ErrFuel, if there is none left. -/
def tick (fuel : Nat) (s : Es) : Ex Es := if s.n < fuel then .ok { s with n := s.n + 1 } else .error (13, s)
section
variable (vs : List VarT) (inp : List Int) (fuel : Nat)
/-- What an expression says of the numbers of what is in it. -/
def sayE (op v n : Int) (xs : List Int) (s : Es) : Ex (Int × Es) :=
  if op = 1 then .ok (n, s)
  else if op = 2 then .ok (cellAt s.cells (cellOf vs v), s)
  else if op = 3 then (if 0 ≤ xs.getD 0 0 ∧ xs.getD 0 0 < sizeV vs v then .ok (cellAt s.cells (cellOf vs v + xs.getD 0 0), s) else .error (11, s))
  else .ok (ariI op (xs.getD 0 0) (xs.getD 1 0), s)
mutual
def evE : ET → Es → Ex (Int × Es)
  | .mk op v n l, s => bndX (evEs l s) fun a => bndX (tick fuel a.2) fun s2 => sayE vs op v n a.1 s2
def evEs : List ET → Es → Ex (List Int × Es)
  | [], s => .ok ([], s)
  | t :: r, s => bndX (evE t s) fun a => bndX (evEs r a.2) fun c => .ok (a.1 :: c.1, c.2)
end
/-- What a statement does in which no others stand, with the numbers that its E and F say. -/
def sayS (op v x y : Int) (s : Es) : Ex Es :=
  if op = 1 then .ok { s with cells := s.cells.set (cellOf vs v).toNat x }
  else if op = 2 then (if 0 ≤ x ∧ x < sizeV vs v then .ok { s with cells := s.cells.set (cellOf vs v + x).toNat y } else .error (11, s))
  else if op = 3 then .ok { s with out := s.out ++ [x] }
  else if op = 4 then (if s.read < inp.length then .ok { s with cells := s.cells.set (cellOf vs v).toNat (inp.getD s.read 0), read := s.read + 1 } else .error (12, s))
  else .ok s
/-- As long as E is not 0, the body; g: so often at most. -/
def loopX (ce : Es → Ex (Int × Es)) (cb : Es → Ex Es) : Nat → Es → Ex Es
  | 0, s => .error (13, s)
  | g + 1, s => bndX (ce s) fun a => bndX (tick fuel a.2) fun s2 => if a.1 = 0 then .ok s2 else bndX (cb s2) fun s3 => bndX (tick fuel s3) fun s4 => loopX ce cb g s4
mutual
def evS : ST → Es → Ex Es
  | .mk op v e f b o, s =>
    if op = 5 then loopX fuel (evE vs fuel e) (evSs b) (fuel + 1) s
    else if op = 6 then bndX (evE vs fuel e s) fun a => bndX (tick fuel a.2) fun s2 => if a.1 = 0 then evSs o s2 else bndX (evSs b s2) fun s3 => tick fuel s3
    else bndX (if needE op then evE vs fuel e s else .ok (0, s)) fun a => bndX (if needF op then evE vs fuel f a.2 else .ok (0, a.2)) fun c => bndX (tick fuel c.2) fun s2 => sayS vs inp op v a.1 c.1 s2
def evSs : List ST → Es → Ex Es
  | [], s => .ok s
  | t :: r, s => bndX (evS t s) fun s1 => evSs r s1
end
/-- A program: its statements, then the end. -/
def evP (body : List ST) (s : Es) : Ex Es := bndX (evSs vs inp fuel body s) fun s1 => tick fuel s1
end
def es0 (c : Nat) : Es := ⟨0, 0, [], List.replicate c 0⟩

/-! ### The machine goes on -/
def runB (W : List Is) (inp : List Int) : Nat → Md × Pr → Md × Pr
  | 0, a => a
  | n + 1, a => runB W inp n (stB W inp a.1 a.2)
theorem runB_add (W : List Is) (inp : List Int) : ∀ (a b : Nat) (x : Md × Pr), runB W inp (a + b) x = runB W inp b (runB W inp a x)
  | 0, b, x => by simp [runB]
  | a + 1, b, x => by
    rw [Nat.succ_add]
    exact runB_add W inp a b _
/-- So many instructions, each of them done. -/
def goB (W : List Is) (inp : List Int) (n : Nat) (a b : Md × Pr) : Prop := runB W inp n a = b ∧ ∀ k < n, (runB W inp k a).1.state = 0
theorem goB_add {W : List Is} {inp : List Int} {a b : Nat} {x y z : Md × Pr} (h : goB W inp a x y) (h2 : goB W inp b y z) : goB W inp (a + b) x z := by
  refine ⟨by rw [runB_add, h.1, h2.1], fun k hk => ?_⟩
  by_cases hka : k < a
  · exact h.2 k hka
  · have e : k = a + (k - a) := by omega
    rw [e, runB_add, h.1]
    exact h2.2 _ (by omega)
/-- The machine's mind where an evaluation is so far, at a place, with so many on the stack. -/
def mdOf (i : Nat) (s : List Int) (e : Es) : Md := ⟨i, s, e.read, e.out.length, 0, e.cells⟩
/-- By as many instructions as X tells the machine comes to what X tells. -/
def Sims (W : List Is) (inp : List Int) (fuel : Nat) {α : Type} (m0 : Md) (s : Es) (X : Ex α) (st : α → Es) (tgt : α → Md → Prop) : Prop :=
  match X with
  | .ok a => s.n ≤ (st a).n ∧ (st a).n ≤ fuel ∧ ∃ m, goB W inp ((st a).n - s.n) (m0, (s.out, false)) (m, ((st a).out, false)) ∧ tgt a m
  | .error e => s.n ≤ e.2.n ∧ e.2.n ≤ fuel ∧ ∃ m, goB W inp (e.2.n - s.n) (m0, (s.out, false)) (m, (e.2.out, false)) ∧ m.cells = e.2.cells ∧ ((e.1 = 13 ∧ e.2.n = fuel ∧ m.state = 0) ∨ (e.1 ≠ 13 ∧ e.1 ≠ 0 ∧ m.state = e.1 + 2))
section
variable {W : List Is} {inp : List Int} {fuel : Nat} {α β : Type} {m0 : Md} {s : Es} {X : Ex α} {st : α → Es} {tgt : α → Md → Prop}
theorem Sims.bnd {f : α → Ex β} {st2 : β → Es} {tgt2 : β → Md → Prop} (h : Sims W inp fuel m0 s X st tgt) (h2 : ∀ a m, X = .ok a → tgt a m → s.n ≤ (st a).n → (st a).n ≤ fuel → Sims W inp fuel m (st a) (f a) st2 tgt2) : Sims W inp fuel m0 s (bndX X f) st2 tgt2 := by
  cases hX : X with
  | error e => rw [hX] at h; exact h
  | ok a =>
    rw [hX] at h
    obtain ⟨h1, h3, m, hr, ht⟩ := h
    have h4 := h2 a m hX ht h1 h3
    show Sims W inp fuel m0 s (f a) st2 tgt2
    cases hY : f a with
    | error e =>
      rw [hY] at h4
      obtain ⟨g1, g2, m', g3, g4⟩ := h4
      have en : e.2.n - s.n = ((st a).n - s.n) + (e.2.n - (st a).n) := by omega
      refine ⟨by omega, g2, m', ?_, g4⟩
      rw [en]
      exact goB_add hr g3
    | ok c =>
      rw [hY] at h4
      obtain ⟨g1, g2, m', g3, g4⟩ := h4
      have en : (st2 c).n - s.n = ((st a).n - s.n) + ((st2 c).n - (st a).n) := by omega
      refine ⟨by omega, g2, m', ?_, g4⟩
      rw [en]
      exact goB_add hr g3
theorem Sims.ok {a : α} (hst : st a = s) (hn : s.n ≤ fuel) (ht : tgt a m0) : Sims W inp fuel m0 s (.ok a) st tgt := by
  refine ⟨by rw [hst]; exact Nat.le_refl _, by rw [hst]; exact hn, m0, ?_, ht⟩
  rw [hst, Nat.sub_self]
  exact ⟨rfl, fun k hk => absurd hk (by omega)⟩
theorem Sims.mono {tgt2 : α → Md → Prop} (h : Sims W inp fuel m0 s X st tgt) (ht : ∀ a m, tgt a m → tgt2 a m) : Sims W inp fuel m0 s X st tgt2 := by
  cases X with
  | error e => exact h
  | ok a =>
    obtain ⟨h1, h2, m, h3, h4⟩ := h
    exact ⟨h1, h2, m, h3, ht a m h4⟩
/-- One instruction, and what it comes to. -/
theorem Sims.tick {f : Es → Ex β} {st2 : β → Es} {tgt2 : β → Md → Prop} {x : Is} (hx : W[m0.next]? = some x) (hs : m0.state = 0) (hc : m0.cells = s.cells) (hn : s.n ≤ fuel)
    (h : s.n + 1 ≤ fuel → match f { s with n := s.n + 1 } with
      | .ok a => (st2 a).n = s.n + 1 ∧ (exI inp x m0 (s.out, false)).2 = ((st2 a).out, false) ∧ tgt2 a (exI inp x m0 (s.out, false)).1
      | .error e => e.2.n = s.n + 1 ∧ (exI inp x m0 (s.out, false)).2 = (e.2.out, false) ∧ (exI inp x m0 (s.out, false)).1.cells = e.2.cells ∧ e.1 ≠ 13 ∧ e.1 ≠ 0 ∧ (exI inp x m0 (s.out, false)).1.state = e.1 + 2) : Sims W inp fuel m0 s (bndX (tick fuel s) f) st2 tgt2 := by
  unfold E.tick
  by_cases hlt : s.n < fuel
  · rw [if_pos hlt]
    have h1 := h (by omega)
    have hone : goB W inp 1 (m0, (s.out, false)) (exI inp x m0 (s.out, false)) := by
      refine ⟨?_, fun k hk => by have : k = 0 := by omega
                                 subst this; exact hs⟩
      have hg : W.getD m0.next (0, 0, 0, 0) = x := by rw [List.getD_eq_getElem?_getD, hx]; rfl
      show stB W inp m0 (s.out, false) = _
      unfold stB
      rw [if_pos hs, hg]
    show Sims W inp fuel m0 s (f { s with n := s.n + 1 }) st2 tgt2
    cases hf : f { s with n := s.n + 1 } with
    | ok a =>
      rw [hf] at h1
      obtain ⟨e1, e2, e3⟩ := h1
      refine ⟨by omega, by omega, (exI inp x m0 (s.out, false)).1, ?_, e3⟩
      have : (st2 a).n - s.n = 1 := by omega
      rw [this, ← e2]
      exact hone
    | error e =>
      rw [hf] at h1
      obtain ⟨e1, e2, e3, e4, e5, e6⟩ := h1
      refine ⟨by omega, by omega, (exI inp x m0 (s.out, false)).1, ?_, e3, .inr ⟨e4, e5, e6⟩⟩
      have : e.2.n - s.n = 1 := by omega
      rw [this, ← e2]
      exact hone
  · rw [if_neg hlt]
    refine ⟨Nat.le_refl _, hn, m0, ?_, hc, .inl ⟨rfl, by show s.n = fuel; omega, hs⟩⟩
    show goB W inp (s.n - s.n) _ _
    rw [Nat.sub_self]
    exact ⟨rfl, fun k hk => absurd hk (by omega)⟩
/-- One instruction that prints nothing. -/
theorem Sims.tick1 {x : Is} (hx : W[m0.next]? = some x) (hs : m0.state = 0) (hc : m0.cells = s.cells) (hn : s.n ≤ fuel) (hp : (exI inp x m0 (s.out, false)).2 = (s.out, false)) : Sims W inp fuel m0 s (E.tick fuel s) id (fun s2 m => s2 = { s with n := s.n + 1 } ∧ m = (exI inp x m0 (s.out, false)).1) := by
  have h := Sims.tick (W := W) (inp := inp) (fuel := fuel) (m0 := m0) (s := s) (f := fun s2 => Except.ok s2) (st2 := id) (tgt2 := fun s2 m => s2 = { s with n := s.n + 1 } ∧ m = (exI inp x m0 (s.out, false)).1) hx hs hc hn (fun _ => ⟨rfl, hp, rfl, rfl⟩)
  have e : bndX (E.tick fuel s) (fun s2 => Except.ok s2) = E.tick fuel s := by
    cases E.tick fuel s <;> rfl
  rw [e] at h
  exact h
end
end E
end Go.Proofs.Ytmdjgejahnmfmaf

/- Plain mathematics of what a program says, second part: what expressions and statements say is what instructions do. -/
namespace Go.Proofs.Ytmdjgejahnmfmaf
set_option maxRecDepth 20000
set_option maxHeartbeats 4000000
namespace E

def Seg (W : List Is) (i : Nat) (l : List Is) : Prop := ∀ j x, l[j]? = some x → W[i + j]? = some x
theorem Seg.left {W : List Is} {i : Nat} {a b : List Is} (h : Seg W i (a ++ b)) : Seg W i a := fun j x hx => h j x (by
  have hj := (List.getElem?_eq_some_iff.1 hx).1
  rw [List.getElem?_append_left hj]; exact hx)
theorem Seg.right {W : List Is} {i : Nat} {a b : List Is} (h : Seg W i (a ++ b)) : Seg W (i + a.length) b := fun j x hx => by
  have := h (a.length + j) x (by rw [List.getElem?_append_right (by omega), Nat.add_sub_cancel_left]; exact hx)
  rw [← Nat.add_assoc] at this
  exact this
theorem Seg.head {W : List Is} {i : Nat} {x : Is} {b : List Is} (h : Seg W i (x :: b)) : W[i]? = some x ∧ Seg W (i + 1) b :=
  ⟨h 0 x rfl, fun j y hy => by
    have := h (j + 1) y hy
    rw [Nat.add_comm j 1, ← Nat.add_assoc] at this
    exact this⟩
theorem top_app (s : List Int) (x : Int) : topS (s ++ [x]) = x := by simp [topS]
theorem drop_app (s : List Int) (x : Int) : (s ++ [x]).dropLast = s := by simp

section
variable {vs : List VarT} {W : List Is} {inp : List Int} {fuel : Nat}
mutual
theorem simE : ∀ (t : ET) {d k k' : Nat}, chkE vs.length t d k = .ok k' → ∀ (i : Nat) (s : List Int) (e : Es), Seg W i (insE vs t) → e.n ≤ fuel →
    Sims W inp fuel (mdOf i s e) e (evE vs fuel t e) (fun a => a.2) (fun a m => m = mdOf (i + (insE vs t).length) (s ++ [a.1]) a.2)
  | .mk op v n l, d, k, k', h, i, s, e, hW, hn => by
    obtain ⟨_, h1, k1, h2⟩ := chkE_inv h
    obtain ⟨a1, a2, a3, _, _, _⟩ := ownE_inv h1
    obtain ⟨p1, p2, p3, p4⟩ := parts_le a3
    simp only [insE] at hW ⊢
    simp only [evE]
    refine Sims.bnd (simEs l h2 i s e hW.left hn) ?_
    rintro ⟨xs, s1⟩ m _ ⟨rfl, hxl⟩ _ hn1
    simp only at hn1 hxl ⊢
    obtain ⟨hx, _⟩ := hW.right.head
    refine Sims.tick hx rfl rfl hn1 ?_
    intro _
    have hlen : ∀ x : Is, i + (insEs vs l ++ [x]).length = i + (insEs vs l).length + 1 := fun x => by simp; omega
    unfold sayE
    by_cases e1 : op = 1
    · subst e1
      have hx0 : xs = [] := List.eq_nil_of_length_eq_zero (by have := p2 (.inl rfl); omega)
      subst hx0
      rw [if_pos rfl]
      refine ⟨rfl, rfl, ?_⟩
      rw [hlen]
      simp [exI, mdOf]
    rw [if_neg e1]
    by_cases e2 : op = 2
    · subst e2
      have hx0 : xs = [] := List.eq_nil_of_length_eq_zero (by have := p2 (.inr rfl); omega)
      subst hx0
      rw [if_pos rfl]
      refine ⟨rfl, rfl, ?_⟩
      rw [hlen]
      simp [exI, mdOf]
    rw [if_neg e2]
    by_cases e3 : op = 3
    · subst e3
      obtain ⟨y, rfl⟩ : ∃ y, xs = [y] := by
        have := p3 rfl
        match xs, hxl with
        | [y], _ => exact ⟨y, rfl⟩
        | [], hxl => simp at hxl; omega
        | _ :: _ :: _, hxl => simp at hxl; omega
      rw [if_pos rfl]
      have hy : [y].getD 0 0 = y := rfl
      rw [hy]
      by_cases hr : 0 ≤ y ∧ y < sizeV vs v
      · rw [if_pos hr]
        refine ⟨rfl, ?_, ?_⟩
        · simp [exI, mdOf, top_app, hr]
        · rw [hlen]
          simp [exI, mdOf, top_app, hr]
      · rw [if_neg hr]
        refine ⟨rfl, ?_, ?_, (by show (11 : Nat) ≠ 13; decide), (by show (11 : Nat) ≠ 0; decide), ?_⟩
        · simp [exI, mdOf, top_app, hr]
        · simp [exI, mdOf, top_app, hr]
        · simp [exI, mdOf, top_app, hr]
    rw [if_neg e3]
    obtain ⟨z, y, rfl⟩ : ∃ z y, xs = [z, y] := by
      have := p4 (by omega)
      match xs, hxl with
      | [z, y], _ => exact ⟨z, y, rfl⟩
      | [], hxl => simp at hxl; omega
      | [_], hxl => simp at hxl; omega
      | _ :: _ :: _ :: _, hxl => simp at hxl; omega
    have hs2 : s ++ [z, y] = (s ++ [z]) ++ [y] := by simp
    have hex : ∀ A B, exI inp (op, A, B, n) (mdOf (i + (insEs vs l).length) (s ++ [z, y]) s1) (s1.out, false) = (mdOf (i + (insEs vs l).length + 1) (s ++ [ariI op z y]) { s1 with n := s1.n + 1 }, (s1.out, false)) := fun A B => by
      unfold exI
      simp only
      rw [if_neg e1, if_neg e2, if_neg e3, if_pos ⟨by omega, a2⟩]
      simp only [mdOf, hs2, top_app, drop_app]
    refine ⟨rfl, by rw [hex], ?_⟩
    rw [hlen, hex]
    simp
theorem simEs : ∀ (l : List ET) {d k k' : Nat}, chkEs vs.length l d k = .ok k' → ∀ (i : Nat) (s : List Int) (e : Es), Seg W i (insEs vs l) → e.n ≤ fuel →
    Sims W inp fuel (mdOf i s e) e (evEs vs fuel l e) (fun a => a.2) (fun a m => m = mdOf (i + (insEs vs l).length) (s ++ a.1) a.2 ∧ a.1.length = l.length)
  | [], _, _, _, _, i, s, e, _, hn => by
    simp only [evEs]
    exact Sims.ok rfl hn ⟨by simp [insEs], rfl⟩
  | t :: r, d, k, k', h, i, s, e, hW, hn => by
    obtain ⟨⟨k1, h1⟩, k2, h2⟩ := chkEs_inv h
    simp only [insEs] at hW ⊢
    simp only [evEs]
    refine Sims.bnd (simE t h1 i s e hW.left hn) ?_
    rintro ⟨x, s1⟩ m _ rfl _ hn1
    refine Sims.bnd (simEs r h2 _ (s ++ [x]) s1 hW.right hn1) ?_
    rintro ⟨xs, s2⟩ m _ ⟨rfl, hxl⟩ _ hn2
    refine Sims.ok rfl hn2 ⟨?_, by simp only [List.length_cons]; simp only at hxl; omega⟩
    simp [Nat.add_assoc]
end

mutual
theorem simS : ∀ (t : ST) {d k k' : Nat}, chkS vs.length t d k = .ok k' → ∀ (i : Nat) (e : Es), Seg W i (insS vs t i) → e.n ≤ fuel →
    Sims W inp fuel (mdOf i [] e) e (evS vs inp fuel t e) id (fun a m => m = mdOf (i + (insS vs t i).length) [] a)
  | .mk op v e f b o, d, k, k', h, i, s, hW, hn => by
    obtain ⟨hd, h1, h2, h3, ⟨k1, k2, h4⟩, k3, k4, h5⟩ := chkS_inv h
    obtain ⟨a1, a2, _⟩ := ownS_inv h1
    have sb := fun i e => simSs b h4 i e
    have so := fun i e => simSs o h5 i e
    simp only [evS]
    simp only [insS] at hW ⊢
    by_cases e5 : op = 5
    · subst e5
      rw [if_pos rfl] at hW ⊢
      rw [if_pos rfl]
      obtain ⟨_, _, hce⟩ := h2 rfl
      have hEI : eI vs 5 e = insE vs e := rfl
      rw [hEI] at hW ⊢
      obtain ⟨X, hX⟩ : ∃ X, X = insSs vs b (i + (insE vs e).length + 1) := ⟨_, rfl⟩
      have hsb := sb (i + (insE vs e).length + 1)
      rw [← hX] at hW hsb ⊢
      have hwl : (whileI i (insE vs e) X).length = (insE vs e).length + 1 + X.length + 1 := by simp [whileI]; omega
      rw [hwl]
      unfold whileI at hW
      obtain ⟨hx1, hW2⟩ := hW.right.head
      obtain ⟨hx2, _⟩ := hW2.right.head
      have loop : ∀ (g : Nat) (s : Es), s.n ≤ fuel → fuel < g + s.n → Sims W inp fuel (mdOf i [] s) s (loopX fuel (evE vs fuel e) (evSs vs inp fuel b) g s) id (fun a m => m = mdOf (i + ((insE vs e).length + 1 + X.length + 1)) [] a) := by
        intro g
        induction g with
        | zero => intro s hs hg; omega
        | succ g ih =>
          intro s hs hg
          simp only [loopX]
          refine Sims.bnd (simE e hce i [] s hW.left hs) ?_
          rintro ⟨x, s1⟩ m _ rfl hn01 hn1
          simp only at hn01 hn1 ⊢
          refine Sims.bnd (Sims.tick1 hx1 rfl rfl hn1 rfl) ?_
          rintro s2 m _ ⟨rfl, rfl⟩ hn12 hn2
          simp only [id] at hn12 hn2 ⊢
          have hex : (exI inp (13, ((i + (insE vs e).length + 1 + X.length + 1 : Nat) : Int), 0, 0) (mdOf (i + (insE vs e).length) ([] ++ [x]) s1) (s1.out, false)).1 = mdOf (if x = 0 then i + (insE vs e).length + 1 + X.length + 1 else i + (insE vs e).length + 1) [] { s1 with n := s1.n + 1 } := by
            simp [exI, mdOf, topS]
            split <;> omega
          rw [hex]
          by_cases hx0 : x = 0
          · rw [if_pos hx0, if_pos hx0]
            exact Sims.ok rfl hn2 (by congr 1; omega)
          · rw [if_neg hx0, if_neg hx0]
            refine Sims.bnd (hsb { s1 with n := s1.n + 1 } hW2.left hn2) ?_
            rintro s3 m _ rfl hn23 hn3
            simp only [id] at hn23 hn3 ⊢
            refine Sims.bnd (Sims.tick1 hx2 rfl rfl hn3 rfl) ?_
            rintro s4 m _ ⟨rfl, rfl⟩ hn34 hn4
            simp only [id] at hn34 hn4 ⊢
            have hex2 : (exI inp (14, ((i : Nat) : Int), 0, 0) (mdOf (i + (insE vs e).length + 1 + X.length) [] s3) (s3.out, false)).1 = mdOf i [] { s3 with n := s3.n + 1 } := by
              simp [exI, mdOf]
            rw [hex2]
            exact ih _ hn4 (by show fuel < g + (s3.n + 1); omega)
      exact loop (fuel + 1) s hn (by omega)
    rw [if_neg e5] at hW ⊢
    rw [if_neg e5]
    by_cases e6 : op = 6
    · subst e6
      rw [if_pos rfl] at hW ⊢
      rw [if_pos rfl]
      obtain ⟨_, _, hce⟩ := h2 rfl
      have hEI : eI vs 6 e = insE vs e := rfl
      rw [hEI] at hW ⊢
      obtain ⟨X, hX⟩ : ∃ X, X = insSs vs b (i + (insE vs e).length + 1) := ⟨_, rfl⟩
      have hsb := sb (i + (insE vs e).length + 1)
      rw [← hX] at hW hsb ⊢
      obtain ⟨Y, hY⟩ : ∃ Y, Y = insSs vs o (i + (insE vs e).length + 1 + X.length + 1) := ⟨_, rfl⟩
      have hso := so (i + (insE vs e).length + 1 + X.length + 1)
      rw [← hY] at hW hso ⊢
      have hwl : (ifI i (insE vs e) X Y).length = (insE vs e).length + 1 + X.length + 1 + Y.length := by simp [ifI]; omega
      rw [hwl]
      unfold ifI at hW
      obtain ⟨hx1, hW2⟩ := hW.right.head
      obtain ⟨hx2, hW3⟩ := hW2.right.head
      refine Sims.bnd (simE e hce i [] s hW.left hn) ?_
      rintro ⟨x, s1⟩ m _ rfl hn01 hn1
      simp only at hn01 hn1 ⊢
      refine Sims.bnd (Sims.tick1 hx1 rfl rfl hn1 rfl) ?_
      rintro s2 m _ ⟨rfl, rfl⟩ hn12 hn2
      simp only [id] at hn12 hn2 ⊢
      have hex : (exI inp (13, ((i + (insE vs e).length + 1 + X.length + 1 : Nat) : Int), 0, 0) (mdOf (i + (insE vs e).length) ([] ++ [x]) s1) (s1.out, false)).1 = mdOf (if x = 0 then i + (insE vs e).length + 1 + X.length + 1 else i + (insE vs e).length + 1) [] { s1 with n := s1.n + 1 } := by
        simp [exI, mdOf, topS]
        split <;> omega
      rw [hex]
      by_cases hx0 : x = 0
      · rw [if_pos hx0, if_pos hx0]
        refine (hso { s1 with n := s1.n + 1 } hW3 hn2).mono ?_
        rintro a m rfl
        congr 1
        omega
      · rw [if_neg hx0, if_neg hx0]
        refine Sims.bnd (hsb { s1 with n := s1.n + 1 } hW2.left hn2) ?_
        rintro s3 m _ rfl hn23 hn3
        simp only [id] at hn23 hn3 ⊢
        refine (Sims.tick1 hx2 rfl rfl hn3 rfl).mono ?_
        rintro s4 m ⟨rfl, rfl⟩
        simp [exI, mdOf]
        omega
    rw [if_neg e6] at hW ⊢
    rw [if_neg e6]
    have hsegE := hW.left
    have hsegF := hW.right.left
    obtain ⟨hx, _⟩ := hW.right.right.head
    have hlen : i + (eI vs op e ++ (fI vs op f ++ [lastI vs op v])).length = i + (eI vs op e).length + (fI vs op f).length + 1 := by simp; omega
    rw [hlen]
    have sE : Sims W inp fuel (mdOf i [] s) s (if needE op then evE vs fuel e s else .ok (0, s)) (fun a => a.2) (fun a m => m = mdOf (i + (eI vs op e).length) (if needE op then [a.1] else []) a.2) := by
      unfold eI at hsegE ⊢
      cases hne : needE op with
      | false => exact Sims.ok rfl hn rfl
      | true =>
        obtain ⟨_, _, hc⟩ := h2 hne
        rw [hne] at hsegE
        exact simE e hc i [] s hsegE hn
    refine Sims.bnd sE ?_
    rintro ⟨x, s1⟩ m _ rfl _ hn1
    simp only at hn1 ⊢
    have sF : Sims W inp fuel (mdOf (i + (eI vs op e).length) (if needE op then [x] else []) s1) s1 (if needF op then evE vs fuel f s1 else .ok (0, s1)) (fun a => a.2) (fun a m => m = mdOf (i + (eI vs op e).length + (fI vs op f).length) ((if needE op then [x] else []) ++ (if needF op then [a.1] else [])) a.2) := by
      unfold fI at hsegF ⊢
      cases hnf : needF op with
      | false => exact Sims.ok rfl hn1 (by simp)
      | true =>
        obtain ⟨_, _, hc⟩ := h3 hnf
        rw [hnf] at hsegF
        exact simE f hc _ _ s1 hsegF hn1
    refine Sims.bnd sF ?_
    rintro ⟨y, s2⟩ m _ rfl _ hn2
    simp only at hn2 ⊢
    refine Sims.tick hx rfl rfl hn2 ?_
    intro _
    have hop : op = 1 ∨ op = 2 ∨ op = 3 ∨ op = 4 ∨ op = 7 := by omega
    rcases hop with rfl | rfl | rfl | rfl | rfl
    · exact ⟨rfl, rfl, by simp [exI, lastI, mdOf, needE, needF, topS]⟩
    · by_cases hr : 0 ≤ x ∧ x < sizeV vs v
      · have e9 : sayS vs inp 2 v x y { s2 with n := s2.n + 1 } = .ok { s2 with n := s2.n + 1, cells := s2.cells.set (cellOf vs v + x).toNat y } := by simp [sayS, hr]
        rw [e9]
        exact ⟨rfl, by simp [exI, lastI, mdOf, needE, needF, topS, hr], by simp [exI, lastI, mdOf, needE, needF, topS, hr]⟩
      · have e9 : sayS vs inp 2 v x y { s2 with n := s2.n + 1 } = .error (11, { s2 with n := s2.n + 1 }) := by simp [sayS, hr]
        rw [e9]
        exact ⟨rfl, by simp [exI, lastI, mdOf, needE, needF, topS, hr], by simp [exI, lastI, mdOf, needE, needF, topS, hr], (by show (11 : Nat) ≠ 13; decide), (by show (11 : Nat) ≠ 0; decide), by simp [exI, lastI, mdOf, needE, needF, topS, hr]⟩
    · refine ⟨rfl, ?_, ?_⟩
      · simp [exI, lastI, mdOf, needE, needF, topS, putP]
      · simp [exI, lastI, mdOf, needE, needF]
    · by_cases hr : s2.read < inp.length
      · have e9 : sayS vs inp 4 v x y { s2 with n := s2.n + 1 } = .ok { s2 with n := s2.n + 1, cells := s2.cells.set (cellOf vs v).toNat (inp.getD s2.read 0), read := s2.read + 1 } := by simp [sayS, hr]
        rw [e9]
        exact ⟨rfl, by simp [exI, lastI, mdOf, needE, needF, hr], by simp [exI, lastI, mdOf, needE, needF, hr]⟩
      · have e9 : sayS vs inp 4 v x y { s2 with n := s2.n + 1 } = .error (12, { s2 with n := s2.n + 1 }) := by simp [sayS, hr]
        rw [e9]
        exact ⟨rfl, by simp [exI, lastI, mdOf, needE, needF, hr], by simp [exI, lastI, mdOf, needE, needF, hr], (by show (12 : Nat) ≠ 13; decide), (by show (12 : Nat) ≠ 0; decide), by simp [exI, lastI, mdOf, needE, needF, hr]⟩
    · exact ⟨rfl, rfl, by simp [exI, lastI, mdOf, needE, needF]⟩
theorem simSs : ∀ (l : List ST) {d k k' : Nat}, chkSs vs.length l d k = .ok k' → ∀ (i : Nat) (e : Es), Seg W i (insSs vs l i) → e.n ≤ fuel →
    Sims W inp fuel (mdOf i [] e) e (evSs vs inp fuel l e) id (fun a m => m = mdOf (i + (insSs vs l i).length) [] a)
  | [], _, _, _, _, i, e, _, hn => by
    simp only [evSs]
    exact Sims.ok rfl hn (by simp [insSs])
  | t :: r, d, k, k', h, i, e, hW, hn => by
    obtain ⟨⟨k1, h1⟩, k2, h2⟩ := chkSs_inv h
    simp only [insSs] at hW ⊢
    simp only [evSs]
    refine Sims.bnd (simS t h1 i e hW.left hn) ?_
    rintro s1 m _ rfl _ hn1
    refine (simSs r h2 _ s1 hW.right hn1).mono ?_
    rintro a m rfl
    simp [Nat.add_assoc]
end
end
end E
end Go.Proofs.Ytmdjgejahnmfmaf

/- Plain mathematics of what a program says, third part: a whole program; more instructions, more input, and no commits. -/
namespace Go.Proofs.Ytmdjgejahnmfmaf
set_option maxRecDepth 20000
set_option maxHeartbeats 4000000
namespace E

/-- What a run comes to: its code, what it printed, the cells, how many instructions. -/
def resX : Ex Es → Nat × List Int × List Int × Nat
  | .ok a => (0, a.out, a.cells, a.n)
  | .error e => (e.1, e.2.out, e.2.cells, e.2.n)
theorem simP {vs : List VarT} {body : List ST} (h : progFault vs body = 0) (inp : List Int) (fuel c : Nat) :
    Sims (insP vs body) inp fuel (mind0 c) (es0 c) (evP vs inp fuel body (es0 c)) id (fun a m => m.state = 1 ∧ m.cells = a.cells) := by
  obtain ⟨_, _, k, hk⟩ := progFault_ok h
  have hW : Seg (insP vs body) 0 (insSs vs body 0 ++ [haltI]) := fun j x hx => by rw [Nat.zero_add]; exact hx
  unfold evP
  refine Sims.bnd (simSs body hk 0 (es0 c) hW.left (Nat.zero_le _)) ?_
  rintro s1 m _ rfl _ hn1
  obtain ⟨hx, _⟩ := hW.right.head
  refine (Sims.tick1 hx rfl rfl hn1 rfl).mono ?_
  rintro s2 m ⟨rfl, rfl⟩
  exact ⟨rfl, rfl⟩
/-- The document's run: it goes on while it does, fuel times at most; what it is then. -/
theorem runP {vs : List VarT} {body : List ST} (h : progFault vs body = 0) (inp : List Int) (fuel c : Nat) :
    ∃ n m out, n ≤ fuel ∧ goB (insP vs body) inp n (mind0 c, ([], false)) (m, (out, false)) ∧ (n = fuel ∨ m.state ≠ 0) ∧
      resX (evP vs inp fuel body (es0 c)) = (if m.state = 0 then 13 else if m.state = 1 then 0 else m.state - 2, out, m.cells, n) := by
  have hs := simP h inp fuel c
  cases hX : evP vs inp fuel body (es0 c) with
  | ok a =>
    rw [hX] at hs
    obtain ⟨_, h2, m, h3, h4, h5⟩ := hs
    refine ⟨a.n, m, a.out, h2, h3, .inr (by omega), ?_⟩
    simp [resX, h4, h5]
  | error e =>
    rw [hX] at hs
    obtain ⟨_, h2, m, h3, h4, h5⟩ := hs
    refine ⟨e.2.n, m, e.2.out, h2, h3, ?_, ?_⟩
    · rcases h5 with ⟨_, h6, _⟩ | ⟨_, _, h6⟩
      · exact .inl h6
      · exact .inr (by omega)
    · rcases h5 with ⟨h5, _, h6⟩ | ⟨h5, h7, h6⟩
      · simp [resX, h4, h5, h6]
      · have e1 : ¬ m.state = 0 := by omega
        have e2 : ¬ m.state = 1 := by omega
        rw [if_neg e1, if_neg e2, h6, h4]
        rfl

/-! ### More instructions -/
def stX {α : Type} (st : α → Es) : Ex α → Es
  | .ok a => st a
  | .error e => e.2
/-- It has gone on from s. -/
def UpE (s t : Es) : Prop := s.n ≤ t.n ∧ s.out <+: t.out
theorem UpE.refl (s : Es) : UpE s s := ⟨Nat.le_refl _, List.prefix_refl _⟩
theorem UpE.trans {a b c : Es} (h : UpE a b) (h2 : UpE b c) : UpE a c := ⟨Nat.le_trans h.1 h2.1, h.2.trans h2.2⟩
theorem up_bnd {α β : Type} {st : α → Es} {st2 : β → Es} {X : Ex α} {f : α → Ex β} {s : Es} (h : UpE s (stX st X)) (h2 : ∀ a, UpE (st a) (stX st2 (f a))) : UpE s (stX st2 (bndX X f)) := by
  cases X with
  | ok a => exact h.trans (h2 a)
  | error e => exact h
theorem up_tick (fuel : Nat) (s : Es) : UpE s (stX id (tick fuel s)) := by
  unfold tick
  split
  · exact ⟨Nat.le_succ _, List.prefix_refl _⟩
  · exact UpE.refl s
section
variable (vs : List VarT) (inp : List Int) (fuel : Nat)
theorem up_sayE (op v n : Int) (xs : List Int) (s : Es) : UpE s (stX (fun a => a.2) (sayE vs op v n xs s)) := by
  unfold sayE
  repeat' split
  all_goals exact UpE.refl s
theorem up_sayS (op v x y : Int) (s : Es) : UpE s (stX id (sayS vs inp op v x y s)) := by
  unfold sayS
  repeat' split
  all_goals first
    | exact UpE.refl s
    | exact ⟨Nat.le_refl _, List.prefix_refl _⟩
    | exact ⟨Nat.le_refl _, List.prefix_append _ _⟩
mutual
theorem up_E : ∀ (t : ET) (s : Es), UpE s (stX (fun a => a.2) (evE vs fuel t s))
  | .mk op v n l, s => by
    simp only [evE]
    exact up_bnd (up_Es l s) fun a => up_bnd (st := id) (up_tick fuel a.2) fun s2 => up_sayE vs op v n a.1 s2
theorem up_Es : ∀ (l : List ET) (s : Es), UpE s (stX (fun a => a.2) (evEs vs fuel l s))
  | [], s => by simp only [evEs]; exact UpE.refl s
  | t :: r, s => by
    simp only [evEs]
    exact up_bnd (up_E t s) fun a => up_bnd (up_Es r a.2) fun c => UpE.refl _
end
theorem up_loop {ce : Es → Ex (Int × Es)} {cb : Es → Ex Es} (h1 : ∀ s, UpE s (stX (fun a => a.2) (ce s))) (h2 : ∀ s, UpE s (stX id (cb s))) : ∀ (g : Nat) (s : Es), UpE s (stX id (loopX fuel ce cb g s))
  | 0, s => UpE.refl s
  | g + 1, s => by
    simp only [loopX]
    refine up_bnd (h1 s) fun a => up_bnd (st := id) (up_tick fuel a.2) fun s2 => ?_
    split
    · exact UpE.refl _
    · exact up_bnd (h2 _) fun s3 => up_bnd (st := id) (up_tick fuel s3) fun s4 => up_loop h1 h2 g s4
theorem up_ite {b : Bool} {c : Es → Ex (Int × Es)} (h : ∀ s, UpE s (stX (fun a => a.2) (c s))) (s : Es) : UpE s (stX (fun a => a.2) (if b then c s else .ok (0, s))) := by
  cases b
  · exact UpE.refl s
  · exact h s
mutual
theorem up_S : ∀ (t : ST) (s : Es), UpE s (stX id (evS vs inp fuel t s))
  | .mk op v e f b o, s => by
    have hb := fun s => up_Ss b s
    have ho := fun s => up_Ss o s
    simp only [evS]
    split
    · exact up_loop fuel (up_E vs fuel e) hb _ s
    split
    · refine up_bnd (up_E vs fuel e s) fun a => up_bnd (st := id) (up_tick fuel a.2) fun s2 => ?_
      split
      · exact ho s2
      · exact up_bnd (hb s2) fun s3 => up_tick fuel s3
    · exact up_bnd (up_ite (up_E vs fuel e) s) fun a => up_bnd (up_ite (up_E vs fuel f) a.2) fun c => up_bnd (st := id) (up_tick fuel c.2) fun s2 => up_sayS vs inp op v a.1 c.1 s2
theorem up_Ss : ∀ (l : List ST) (s : Es), UpE s (stX id (evSs vs inp fuel l s))
  | [], s => by simp only [evSs]; exact UpE.refl s
  | t :: r, s => by
    simp only [evSs]
    exact up_bnd (up_S t s) fun s1 => up_Ss r s1
end
theorem up_P (body : List ST) (s : Es) : UpE s (stX id (evP vs inp fuel body s)) := up_bnd (up_Ss vs inp fuel body s) fun s1 => up_tick fuel s1
end

/-- Y is X with more instructions. -/
def MoreF {α : Type} (st : α → Es) (X Y : Ex α) : Prop := match X with
  | .ok a => Y = .ok a
  | .error e => (e.1 = 13 ∧ UpE e.2 (stX st Y)) ∨ (e.1 ≠ 13 ∧ Y = .error e)
theorem MoreF.bnd {α β : Type} {st : α → Es} {st2 : β → Es} {X Y : Ex α} {f g : α → Ex β} (h : MoreF st X Y) (h2 : ∀ a, MoreF st2 (f a) (g a)) (h3 : ∀ a, UpE (st a) (stX st2 (g a))) : MoreF st2 (bndX X f) (bndX Y g) := by
  cases X with
  | ok a =>
    rw [show Y = .ok a from h]
    exact h2 a
  | error e =>
    rcases h with ⟨h, hu⟩ | ⟨h, rfl⟩
    · exact .inl ⟨h, up_bnd hu h3⟩
    · exact .inr ⟨h, rfl⟩
theorem MoreF.refl {α : Type} {st : α → Es} (X : Ex α) : MoreF st X X := by
  cases X with
  | ok a => exact rfl
  | error e =>
    by_cases h : e.1 = 13
    · exact .inl ⟨h, UpE.refl _⟩
    · exact .inr ⟨h, rfl⟩
section
variable (vs : List VarT) (inp : List Int) {fuel more : Nat}
theorem more_tick (hm : fuel ≤ more) (s : Es) : MoreF id (tick fuel s) (tick more s) := by
  have hu := up_tick more s
  unfold tick at hu ⊢
  by_cases h : s.n < fuel
  · rw [if_pos h, if_pos (by omega)]
    exact rfl
  · rw [if_neg h]
    exact .inl ⟨rfl, hu⟩
mutual
theorem more_E (hm : fuel ≤ more) : ∀ (t : ET) (s : Es), MoreF (fun a => a.2) (evE vs fuel t s) (evE vs more t s)
  | .mk op v n l, s => by
    simp only [evE]
    exact (more_Es hm l s).bnd (fun a => (more_tick hm a.2).bnd (fun s2 => MoreF.refl _) fun s2 => up_sayE vs op v n a.1 s2) fun a => up_bnd (st := id) (up_tick more a.2) fun s2 => up_sayE vs op v n a.1 s2
theorem more_Es (hm : fuel ≤ more) : ∀ (l : List ET) (s : Es), MoreF (fun a => a.2) (evEs vs fuel l s) (evEs vs more l s)
  | [], s => by simp only [evEs]; exact MoreF.refl _
  | t :: r, s => by
    simp only [evEs]
    exact (more_E hm t s).bnd (fun a => (more_Es hm r a.2).bnd (fun c => MoreF.refl _) fun c => UpE.refl _) fun a => up_bnd (up_Es vs more r a.2) fun c => UpE.refl _
end
theorem more_loop (hm : fuel ≤ more) {ce ce' : Es → Ex (Int × Es)} {cb cb' : Es → Ex Es} (h1 : ∀ s, MoreF (fun a => a.2) (ce s) (ce' s)) (h2 : ∀ s, MoreF id (cb s) (cb' s)) (u1 : ∀ s, UpE s (stX (fun a => a.2) (ce' s))) (u2 : ∀ s, UpE s (stX id (cb' s))) :
    ∀ (g g' : Nat) (s : Es), g ≤ g' → MoreF id (loopX fuel ce cb g s) (loopX more ce' cb' g' s)
  | 0, g', s, _ => .inl ⟨rfl, up_loop more u1 u2 g' s⟩
  | g + 1, 0, _, hg => absurd hg (by omega)
  | g + 1, g' + 1, s, hg => by
    have hu : ∀ x : Int, ∀ s2 : Es, UpE s2 (stX id (if x = 0 then .ok s2 else bndX (cb' s2) fun s3 => bndX (tick more s3) fun s4 => loopX more ce' cb' g' s4)) := fun x s2 => by
      split
      · exact UpE.refl _
      · exact up_bnd (u2 _) fun s3 => up_bnd (st := id) (up_tick more s3) fun s4 => up_loop more u1 u2 g' s4
    simp only [loopX]
    refine (h1 s).bnd (fun a => (more_tick hm a.2).bnd (fun s2 => ?_) fun s2 => hu a.1 s2) fun a => up_bnd (st := id) (up_tick more a.2) fun s2 => hu a.1 s2
    by_cases h0 : a.1 = 0
    · rw [if_pos h0, if_pos h0]
      exact rfl
    · rw [if_neg h0, if_neg h0]
      exact (h2 s2).bnd (fun s3 => (more_tick hm s3).bnd (fun s4 => more_loop hm h1 h2 u1 u2 g g' s4 (by omega)) fun s4 => up_loop more u1 u2 g' s4) fun s3 => up_bnd (st := id) (up_tick more s3) fun s4 => up_loop more u1 u2 g' s4
theorem more_ite {b : Bool} {c c' : Es → Ex (Int × Es)} (h : ∀ s, MoreF (fun a => a.2) (c s) (c' s)) (s : Es) : MoreF (fun a => a.2) (if b then c s else .ok (0, s)) (if b then c' s else .ok (0, s)) := by
  cases b
  · exact rfl
  · exact h s
mutual
theorem more_S (hm : fuel ≤ more) : ∀ (t : ST) (s : Es), MoreF id (evS vs inp fuel t s) (evS vs inp more t s)
  | .mk op v e f b o, s => by
    have hb := fun s => more_Ss hm b s
    have ho := fun s => more_Ss hm o s
    simp only [evS]
    by_cases e5 : op = 5
    · rw [if_pos e5, if_pos e5]
      exact more_loop hm (more_E vs hm e) hb (up_E vs more e) (up_Ss vs inp more b) _ _ s (by omega)
    rw [if_neg e5, if_neg e5]
    by_cases e6 : op = 6
    · rw [if_pos e6, if_pos e6]
      have hu : ∀ x : Int, ∀ s2 : Es, UpE s2 (stX id (if x = 0 then evSs vs inp more o s2 else bndX (evSs vs inp more b s2) fun s3 => tick more s3)) := fun x s2 => by
        split
        · exact up_Ss vs inp more o s2
        · exact up_bnd (up_Ss vs inp more b s2) fun s3 => up_tick more s3
      refine (more_E vs hm e s).bnd (fun a => (more_tick hm a.2).bnd (fun s2 => ?_) fun s2 => hu a.1 s2) fun a => up_bnd (st := id) (up_tick more a.2) fun s2 => hu a.1 s2
      by_cases h0 : a.1 = 0
      · rw [if_pos h0, if_pos h0]
        exact ho s2
      · rw [if_neg h0, if_neg h0]
        exact (hb s2).bnd (fun s3 => more_tick hm s3) fun s3 => up_tick more s3
    rw [if_neg e6, if_neg e6]
    exact (more_ite (more_E vs hm e) s).bnd (fun a => (more_ite (more_E vs hm f) a.2).bnd (fun c => (more_tick hm c.2).bnd (fun s2 => MoreF.refl _) fun s2 => up_sayS vs inp op v a.1 c.1 s2) fun c => up_bnd (st := id) (up_tick more c.2) fun s2 => up_sayS vs inp op v a.1 c.1 s2)
      fun a => up_bnd (up_ite (up_E vs more f) a.2) fun c => up_bnd (st := id) (up_tick more c.2) fun s2 => up_sayS vs inp op v a.1 c.1 s2
theorem more_Ss (hm : fuel ≤ more) : ∀ (l : List ST) (s : Es), MoreF id (evSs vs inp fuel l s) (evSs vs inp more l s)
  | [], s => by simp only [evSs]; exact MoreF.refl _
  | t :: r, s => by
    simp only [evSs]
    exact (more_S hm t s).bnd (fun s1 => more_Ss hm r s1) fun s1 => up_Ss vs inp more r s1
end
theorem more_P (hm : fuel ≤ more) (body : List ST) (s : Es) : MoreF id (evP vs inp fuel body s) (evP vs inp more body s) := (more_Ss vs inp hm body s).bnd (fun s1 => more_tick hm s1) fun s1 => up_tick more s1
end
end E
end Go.Proofs.Ytmdjgejahnmfmaf

/- Plain mathematics of what a program says, fourth part: what is not read, and what is not committed. -/
namespace Go.Proofs.Ytmdjgejahnmfmaf
set_option maxRecDepth 20000
set_option maxHeartbeats 4000000
namespace E

/-! ### More input -/
/-- The same, unless a number was wanting. -/
def MoreI {α : Type} (X Y : Ex α) : Prop := match X with
  | .ok a => Y = .ok a
  | .error e => e.1 = 12 ∨ Y = .error e
theorem MoreI.refl {α : Type} (X : Ex α) : MoreI X X := by
  cases X with
  | ok a => exact rfl
  | error e => exact .inr rfl
theorem MoreI.bnd {α β : Type} {X Y : Ex α} {f g : α → Ex β} (h : MoreI X Y) (h2 : ∀ a, MoreI (f a) (g a)) : MoreI (bndX X f) (bndX Y g) := by
  cases X with
  | ok a =>
    rw [show Y = .ok a from h]
    exact h2 a
  | error e =>
    rcases h with h | rfl
    · exact .inl h
    · exact .inr rfl
section
variable (vs : List VarT) (inp inp2 : List Int) (fuel : Nat)
theorem inp_sayS (op v x y : Int) (s : Es) : MoreI (sayS vs inp op v x y s) (sayS vs (inp ++ inp2) op v x y s) := by
  unfold sayS
  by_cases e1 : op = 1
  · rw [if_pos e1, if_pos e1]; exact rfl
  rw [if_neg e1, if_neg e1]
  by_cases e2 : op = 2
  · rw [if_pos e2, if_pos e2]; exact MoreI.refl _
  rw [if_neg e2, if_neg e2]
  by_cases e3 : op = 3
  · rw [if_pos e3, if_pos e3]; exact rfl
  rw [if_neg e3, if_neg e3]
  by_cases e4 : op = 4
  · rw [if_pos e4, if_pos e4]
    by_cases hr : s.read < inp.length
    · have hr2 : s.read < (inp ++ inp2).length := by simp; omega
      have hg : (inp ++ inp2).getD s.read 0 = inp.getD s.read 0 := by
        rw [List.getD_eq_getElem?_getD, List.getElem?_append_left hr, ← List.getD_eq_getElem?_getD]
      rw [if_pos hr, if_pos hr2, hg]
      exact rfl
    · rw [if_neg hr]
      exact .inl rfl
  rw [if_neg e4, if_neg e4]
  exact rfl
theorem inp_loop {ce : Es → Ex (Int × Es)} {cb cb' : Es → Ex Es} (h2 : ∀ s, MoreI (cb s) (cb' s)) : ∀ (g : Nat) (s : Es), MoreI (loopX fuel ce cb g s) (loopX fuel ce cb' g s)
  | 0, s => .inr rfl
  | g + 1, s => by
    simp only [loopX]
    refine (MoreI.refl _).bnd fun a => (MoreI.refl _).bnd fun s2 => ?_
    by_cases h0 : a.1 = 0
    · rw [if_pos h0, if_pos h0]
      exact rfl
    · rw [if_neg h0, if_neg h0]
      exact (h2 s2).bnd fun s3 => (MoreI.refl _).bnd fun s4 => inp_loop h2 g s4
mutual
theorem inp_S : ∀ (t : ST) (s : Es), MoreI (evS vs inp fuel t s) (evS vs (inp ++ inp2) fuel t s)
  | .mk op v e f b o, s => by
    have hb := fun s => inp_Ss b s
    have ho := fun s => inp_Ss o s
    simp only [evS]
    by_cases e5 : op = 5
    · rw [if_pos e5, if_pos e5]
      exact inp_loop fuel hb _ s
    rw [if_neg e5, if_neg e5]
    by_cases e6 : op = 6
    · rw [if_pos e6, if_pos e6]
      refine (MoreI.refl _).bnd fun a => (MoreI.refl _).bnd fun s2 => ?_
      by_cases h0 : a.1 = 0
      · rw [if_pos h0, if_pos h0]
        exact ho s2
      · rw [if_neg h0, if_neg h0]
        exact (hb s2).bnd fun s3 => MoreI.refl _
    rw [if_neg e6, if_neg e6]
    exact (MoreI.refl _).bnd fun a => (MoreI.refl _).bnd fun c => (MoreI.refl _).bnd fun s2 => inp_sayS vs inp inp2 op v a.1 c.1 s2
theorem inp_Ss : ∀ (l : List ST) (s : Es), MoreI (evSs vs inp fuel l s) (evSs vs (inp ++ inp2) fuel l s)
  | [], s => by simp only [evSs]; exact rfl
  | t :: r, s => by
    simp only [evSs]
    exact (inp_S t s).bnd fun s1 => inp_Ss r s1
end
theorem inp_P (body : List ST) (s : Es) : MoreI (evP vs inp fuel body s) (evP vs (inp ++ inp2) fuel body s) := (inp_Ss vs inp inp2 fuel body s).bnd fun _ => MoreI.refl _
end

/-! ### Without commits -/
def opT : ST → Int
  | .mk op _ _ _ _ _ => op
mutual
def calmS : ST → ST
  | .mk op v e f b o => .mk op v e f (calmL b) (calmL o)
def calmL : List ST → List ST
  | [] => []
  | t :: r => if opT t = 7 then calmL r else calmS t :: calmL r
end
/-- The same, by no more instructions. -/
def Less (s t : Es) : Prop := t.n ≤ s.n ∧ t.read = s.read ∧ t.out = s.out ∧ t.cells = s.cells
theorem Less.refl (s : Es) : Less s s := ⟨Nat.le_refl _, rfl, rfl, rfl⟩
def LessX {α : Type} (R : α → α → Prop) (X Y : Ex α) : Prop := match X with
  | .ok a => ∃ c, Y = .ok c ∧ R a c
  | .error e => e.1 = 13 ∨ ∃ e', Y = .error e' ∧ e'.1 = e.1 ∧ Less e.2 e'.2
theorem LessX.bnd {α β : Type} {R : α → α → Prop} {R2 : β → β → Prop} {X Y : Ex α} {f g : α → Ex β} (h : LessX R X Y) (h2 : ∀ a c, R a c → LessX R2 (f a) (g c)) : LessX R2 (bndX X f) (bndX Y g) := by
  cases X with
  | ok a =>
    obtain ⟨c, rfl, hr⟩ := h
    exact h2 a c hr
  | error e =>
    rcases h with h | ⟨e', rfl, h⟩
    · exact .inl h
    · exact .inr ⟨e', rfl, h⟩
def LessV {α : Type} (a c : α × Es) : Prop := c.1 = a.1 ∧ Less a.2 c.2
theorem less_tick {fuel : Nat} {s t : Es} (h : Less s t) : LessX Less (tick fuel s) (tick fuel t) := by
  obtain ⟨h1, h2, h3, h4⟩ := h
  unfold tick
  by_cases hs : s.n < fuel
  · rw [if_pos hs, if_pos (by omega)]
    exact ⟨_, rfl, by show t.n + 1 ≤ s.n + 1; omega, h2, h3, h4⟩
  · rw [if_neg hs]
    exact .inl rfl
section
variable (vs : List VarT) (inp : List Int) (fuel : Nat)
theorem less_sayE (op v n : Int) (xs : List Int) {s t : Es} (h : Less s t) : LessX LessV (sayE vs op v n xs s) (sayE vs op v n xs t) := by
  have h4 := h.2.2.2
  unfold sayE
  rw [h4]
  by_cases e1 : op = 1
  · rw [if_pos e1, if_pos e1]; exact ⟨_, rfl, rfl, h⟩
  rw [if_neg e1, if_neg e1]
  by_cases e2 : op = 2
  · rw [if_pos e2, if_pos e2]; exact ⟨_, rfl, rfl, h⟩
  rw [if_neg e2, if_neg e2]
  by_cases e3 : op = 3
  · rw [if_pos e3, if_pos e3]
    split
    · exact ⟨_, rfl, rfl, h⟩
    · exact .inr ⟨_, rfl, rfl, h⟩
  rw [if_neg e3, if_neg e3]
  exact ⟨_, rfl, rfl, h⟩
theorem less_sayS (op v x y : Int) {s t : Es} (h : Less s t) : LessX Less (sayS vs inp op v x y s) (sayS vs inp op v x y t) := by
  obtain ⟨h1, h2, h3, h4⟩ := h
  unfold sayS
  rw [h2, h3, h4]
  by_cases e1 : op = 1
  · rw [if_pos e1, if_pos e1]; exact ⟨_, rfl, h1, rfl, rfl, rfl⟩
  rw [if_neg e1, if_neg e1]
  by_cases e2 : op = 2
  · rw [if_pos e2, if_pos e2]
    split
    · exact ⟨_, rfl, h1, rfl, rfl, rfl⟩
    · exact .inr ⟨_, rfl, rfl, h1, h2, h3, h4⟩
  rw [if_neg e2, if_neg e2]
  by_cases e3 : op = 3
  · rw [if_pos e3, if_pos e3]; exact ⟨_, rfl, h1, rfl, rfl, rfl⟩
  rw [if_neg e3, if_neg e3]
  by_cases e4 : op = 4
  · rw [if_pos e4, if_pos e4]
    split
    · exact ⟨_, rfl, h1, rfl, rfl, rfl⟩
    · exact .inr ⟨_, rfl, rfl, h1, h2, h3, h4⟩
  rw [if_neg e4, if_neg e4]
  exact ⟨_, rfl, h1, h2, h3, h4⟩
mutual
theorem less_E : ∀ (x : ET) {s t : Es}, Less s t → LessX LessV (evE vs fuel x s) (evE vs fuel x t)
  | .mk op v n l, s, t, h => by
    simp only [evE]
    refine (less_Es l h).bnd fun a c hac => (less_tick hac.2).bnd fun s2 t2 h2 => ?_
    rw [hac.1]
    exact less_sayE vs op v n a.1 h2
theorem less_Es : ∀ (l : List ET) {s t : Es}, Less s t → LessX LessV (evEs vs fuel l s) (evEs vs fuel l t)
  | [], s, t, h => by simp only [evEs]; exact ⟨_, rfl, rfl, h⟩
  | x :: r, s, t, h => by
    simp only [evEs]
    exact (less_E x h).bnd fun a c hac => (less_Es r hac.2).bnd fun d e hde => ⟨_, rfl, by rw [hac.1, hde.1], hde.2⟩
end
theorem less_loop {ce : Es → Ex (Int × Es)} {cb cb' : Es → Ex Es} (h1 : ∀ s t, Less s t → LessX LessV (ce s) (ce t)) (h2 : ∀ s t, Less s t → LessX Less (cb s) (cb' t)) : ∀ (g : Nat) (s t : Es), Less s t → LessX Less (loopX fuel ce cb g s) (loopX fuel ce cb' g t)
  | 0, s, t, _ => .inl rfl
  | g + 1, s, t, h => by
    simp only [loopX]
    refine (h1 s t h).bnd fun a c hac => (less_tick hac.2).bnd fun s2 t2 hst => ?_
    rw [hac.1]
    by_cases h0 : a.1 = 0
    · rw [if_pos h0, if_pos h0]
      exact ⟨_, rfl, hst⟩
    · rw [if_neg h0, if_neg h0]
      exact (h2 s2 t2 hst).bnd fun s3 t3 h3 => (less_tick h3).bnd fun s4 t4 h4 => less_loop h1 h2 g s4 t4 h4
theorem less_ite {b : Bool} {c : Es → Ex (Int × Es)} (h1 : ∀ s t, Less s t → LessX LessV (c s) (c t)) {s t : Es} (h : Less s t) : LessX LessV (if b then c s else .ok (0, s)) (if b then c t else .ok (0, t)) := by
  cases b
  · exact ⟨_, rfl, rfl, h⟩
  · exact h1 s t h
mutual
theorem less_S : ∀ (x : ST) {s t : Es}, Less s t → LessX Less (evS vs inp fuel x s) (evS vs inp fuel (calmS x) t)
  | .mk op v e f b o, s, t, h => by
    have hb : ∀ s t, Less s t → LessX Less (evSs vs inp fuel b s) (evSs vs inp fuel (calmL b) t) := fun s t h => less_Ss b h
    have ho : ∀ s t, Less s t → LessX Less (evSs vs inp fuel o s) (evSs vs inp fuel (calmL o) t) := fun s t h => less_Ss o h
    have he : ∀ s t, Less s t → LessX LessV (evE vs fuel e s) (evE vs fuel e t) := fun s t h => less_E vs fuel e h
    have hf : ∀ s t, Less s t → LessX LessV (evE vs fuel f s) (evE vs fuel f t) := fun s t h => less_E vs fuel f h
    simp only [calmS, evS]
    by_cases e5 : op = 5
    · rw [if_pos e5, if_pos e5]
      exact less_loop fuel he hb _ s t h
    rw [if_neg e5, if_neg e5]
    by_cases e6 : op = 6
    · rw [if_pos e6, if_pos e6]
      refine (he s t h).bnd fun a c hac => (less_tick hac.2).bnd fun s2 t2 hst => ?_
      rw [hac.1]
      by_cases h0 : a.1 = 0
      · rw [if_pos h0, if_pos h0]
        exact ho s2 t2 hst
      · rw [if_neg h0, if_neg h0]
        exact (hb s2 t2 hst).bnd fun s3 t3 h3 => less_tick h3
    rw [if_neg e6, if_neg e6]
    refine (less_ite he h).bnd fun a c hac => (less_ite hf hac.2).bnd fun a2 c2 hac2 => (less_tick hac2.2).bnd fun s2 t2 hst => ?_
    rw [hac.1, hac2.1]
    exact less_sayS vs inp op v a.1 a2.1 hst
theorem less_Ss : ∀ (l : List ST) {s t : Es}, Less s t → LessX Less (evSs vs inp fuel l s) (evSs vs inp fuel (calmL l) t)
  | [], s, t, h => by simp only [calmL, evSs]; exact ⟨_, rfl, h⟩
  | x :: r, s, t, h => by
    have hr : ∀ s t, Less s t → LessX Less (evSs vs inp fuel r s) (evSs vs inp fuel (calmL r) t) := fun s t h => less_Ss r h
    have hx : LessX Less (evS vs inp fuel x s) (evS vs inp fuel (calmS x) t) := less_S x h
    simp only [calmL]
    by_cases h7 : opT x = 7
    · rw [if_pos h7]
      simp only [evSs]
      have hst : LessX Less (evS vs inp fuel x s) (.ok t) := by
        cases x with
        | mk op v e f b o =>
          have h7 : op = 7 := h7
          subst h7
          simp only [evS]
          rw [if_neg (by decide), if_neg (by decide)]
          show LessX Less (bndX (tick fuel s) fun s2 => sayS vs inp 7 v 0 0 s2) (.ok t)
          unfold tick
          by_cases hs : s.n < fuel
          · rw [if_pos hs]
            obtain ⟨h1, h2, h3, h4⟩ := h
            exact ⟨t, rfl, by show t.n ≤ s.n + 1; omega, h2, h3, h4⟩
          · rw [if_neg hs]
            exact .inl rfl
      exact LessX.bnd (Y := .ok t) (g := fun t2 => evSs vs inp fuel (calmL r) t2) hst fun s1 t1 h1 => hr s1 t1 h1
    · rw [if_neg h7]
      simp only [evSs]
      exact hx.bnd fun s1 t1 h1 => hr s1 t1 h1
end
theorem less_P (body : List ST) {s t : Es} (h : Less s t) : LessX Less (evP vs inp fuel body s) (evP vs inp fuel (calmL body) t) := (less_Ss vs inp fuel body h).bnd fun _ _ h1 => less_tick h1
end
/-! What has no commits is a program, too. -/
theorem calmL_len : ∀ (l : List ST), (calmL l).length ≤ l.length
  | [] => by simp [calmL]
  | t :: r => by
    have := calmL_len r
    simp only [calmL]
    split
    · simp only [List.length_cons]; omega
    · simp only [List.length_cons]; omega
theorem ownS_less {nv : Nat} {op v : Int} {e f : ET} {lb lo lb' lo' : Nat} (h : ownS nv op v e f lb lo = 0) (h1 : lb' ≤ lb) (h2 : lo' ≤ lo) : ownS nv op v e f lb' lo' = 0 := by
  unfold ownS at h ⊢
  split at h
  · exact absurd h (by decide)
  rename_i c1
  rw [if_neg c1]
  split at h
  · exact absurd h (by decide)
  rename_i c2
  rw [if_neg c2]
  split at h
  · exact absurd h (by decide)
  rename_i c3
  rw [if_neg, h]
  intro hc
  apply c3
  simp only [Bool.or_eq_true, Bool.and_eq_true, decide_eq_true_eq] at hc ⊢
  rcases hc with ⟨a, c⟩ | ⟨a, c⟩
  · exact .inl ⟨a, by omega⟩
  · exact .inr ⟨a, by omega⟩
theorem ite_less {nv : Nat} {b : Bool} {e : ET} {d k k' m : Nat} (h : (if b then chkE nv e d k else .ok k) = .ok k') (hm : m ≤ k) : ∃ m', (if b then chkE nv e d m else .ok m) = .ok m' ∧ m' ≤ k' := by
  obtain ⟨c, rfl, hc⟩ := (Roomy.ite b (roomyE nv e)) d k k' h
  exact ⟨m + c, hc d m (Nat.le_refl _) hm, by omega⟩
mutual
theorem chkS_calm (nv : Nat) : ∀ (t : ST) {d k k' m : Nat}, chkS nv t d k = .ok k' → m ≤ k → ∃ m', chkS nv (calmS t) d m = .ok m' ∧ m' ≤ k'
  | .mk op v e f b o, d, k, k', m, h, hm => by
    simp only [chkS] at h
    obtain ⟨k1, h1, h⟩ := nextK_ok h
    obtain ⟨rfl, hd, hk⟩ := headK_ok h1
    split at h
    · cases h
    rename_i ho
    obtain ⟨k2, h2, h⟩ := nextK_ok h
    obtain ⟨k3, h3, h⟩ := nextK_ok h
    obtain ⟨k4, h4, h⟩ := nextK_ok h
    obtain ⟨m2, g2, hm2⟩ := ite_less h2 (show m + 1 ≤ k + 1 by omega)
    obtain ⟨m3, g3, hm3⟩ := ite_less h3 hm2
    obtain ⟨m4, g4, hm4⟩ := chkSs_calm nv b h4 hm3
    obtain ⟨m5, g5, hm5⟩ := chkSs_calm nv o h hm4
    refine ⟨m5, ?_, hm5⟩
    have ho' : ownS nv op v e f (calmL b).length (calmL o).length = 0 := ownS_less (by omega) (calmL_len b) (calmL_len o)
    simp only [calmS, chkS]
    rw [headK_mk hd (by omega)]
    simp only [nextK]
    rw [ho', if_neg (by simp), g2]
    simp only
    rw [g3]
    simp only
    rw [g4]
    simp only
    rw [g5]
theorem chkSs_calm (nv : Nat) : ∀ (l : List ST) {d k k' m : Nat}, chkSs nv l d k = .ok k' → m ≤ k → ∃ m', chkSs nv (calmL l) d m = .ok m' ∧ m' ≤ k'
  | [], d, k, k', m, h, hm => by
    simp only [chkSs, Except.ok.injEq] at h
    subst h
    exact ⟨m, by simp only [calmL, chkSs], hm⟩
  | t :: r, d, k, k', m, h, hm => by
    simp only [chkSs] at h
    obtain ⟨k1, h1, h⟩ := nextK_ok h
    obtain ⟨m1, g1, hm1⟩ := chkS_calm nv t h1 hm
    simp only [calmL]
    split
    · obtain ⟨c, hc, _⟩ := roomyS nv t d k k1 h1
      exact chkSs_calm nv r h (by omega)
    · obtain ⟨m2, g2, hm2⟩ := chkSs_calm nv r h hm1
      refine ⟨m2, ?_, hm2⟩
      simp only [chkSs]
      rw [g1]
      simp only [nextK]
      exact g2
end
theorem progFault_calm {vs : List VarT} {body : List ST} (h : progFault vs body = 0) : progFault vs (calmL body) = 0 := by
  obtain ⟨h1, h2, k, h3⟩ := progFault_ok h
  obtain ⟨m, h4, _⟩ := chkSs_calm vs.length body h3 (Nat.le_refl 0)
  exact progFault_mk h1 h2 h4
end E
end Go.Proofs.Ytmdjgejahnmfmaf

/- Plain mathematics of a life: however it crashes, it is the life without crashes, so far; what is printed is printed once. -/
namespace Go.Proofs.Ytmdjgejahnmfmaf
set_option maxRecDepth 20000
set_option maxHeartbeats 4000000
namespace E

theorem exI_fst (inp : List Int) (x : Is) (m : Md) (p p' : Pr) : (exI inp x m p).1 = (exI inp x m p').1 := by
  simp only [exI, apply_ite Prod.fst]
theorem exI_snd (inp : List Int) (x : Is) (m : Md) (p : Pr) : (exI inp x m p).2 = if x.1 = 11 then putP p m.out (topS m.stack) else p := by
  simp only [exI, apply_ite Prod.snd, ite_self]
  repeat' split
  all_goals first
    | rfl
    | (exfalso; omega)
theorem exI_out (inp : List Int) (x : Is) (m : Md) (p : Pr) : (exI inp x m p).1.out = if x.1 = 11 then m.out + 1 else m.out := by
  simp only [exI, apply_ite Prod.fst, apply_ite Md.out, ite_self]
  repeat' split
  all_goals first
    | rfl
    | (exfalso; omega)

section
variable (W : List Is) (inp : List Int) (c : Nat)
/-- The life without crashes behind so many instructions. -/
def pu (k : Nat) : Md × Pr := runB W inp k (mind0 c, ([], false))
variable {W inp c}
theorem pu_succ (k : Nat) : pu W inp c (k + 1) = stB W inp (pu W inp c k).1 (pu W inp c k).2 := by
  unfold pu
  rw [runB_add]
  rfl
theorem pu_out : ∀ (k : Nat), (pu W inp c k).1.out = (pu W inp c k).2.1.length ∧ (pu W inp c k).2.2 = false
  | 0 => ⟨rfl, rfl⟩
  | k + 1 => by
    obtain ⟨h1, h2⟩ := pu_out k
    rw [pu_succ]
    unfold stB
    split
    · rw [exI_snd, exI_out]
      split
      · unfold putP
        rw [if_pos h1]
        simp [h1, h2]
      · exact ⟨h1, h2⟩
    · exact ⟨h1, h2⟩
theorem pu_pre1 (k : Nat) : (pu W inp c k).2.1 <+: (pu W inp c (k + 1)).2.1 := by
  rw [pu_succ]
  unfold stB
  split
  · rw [exI_snd]
    split
    · unfold putP
      rw [if_pos (pu_out k).1]
      exact List.prefix_append _ _
    · exact List.prefix_refl _
  · exact List.prefix_refl _
theorem pu_pre {a g : Nat} (h : a ≤ g) : (pu W inp c a).2.1 <+: (pu W inp c g).2.1 := by
  induction g with
  | zero =>
    have : a = 0 := by omega
    subst this
    exact List.prefix_refl _
  | succ g ih =>
    by_cases e : a = g + 1
    · subst e; exact List.prefix_refl _
    · exact (ih (by omega)).trans (pu_pre1 g)
theorem pu_idle {n : Nat} (h : (pu W inp c n).1.state ≠ 0) : ∀ (j : Nat), n ≤ j → pu W inp c j = pu W inp c n := by
  intro j hj
  induction j with
  | zero =>
    have : n = 0 := by omega
    subst this
    rfl
  | succ j ih =>
    by_cases e : n = j + 1
    · subst e; rfl
    · have := ih (by omega)
      rw [pu_succ, this]
      unfold stB
      rw [if_neg h]
/-- What was done once is done again: nothing else is printed. -/
theorem pu_again {a g : Nat} (h : a ≤ g) : stB W inp (pu W inp c a).1 (pu W inp c g).2 = ((pu W inp c (a + 1)).1, (pu W inp c (max g (a + 1))).2) := by
  by_cases e : a = g
  · subst e
    rw [show max a (a + 1) = a + 1 by omega, pu_succ]
  · have hmax : max g (a + 1) = g := by omega
    rw [hmax]
    have hp : (pu W inp c (a + 1)).2.1 <+: (pu W inp c g).2.1 := pu_pre (by omega)
    rw [pu_succ] at hp ⊢
    unfold stB at hp ⊢
    by_cases hs : (pu W inp c a).1.state = 0
    · rw [if_pos hs] at hp ⊢
      rw [if_pos hs]
      refine Prod.ext (exI_fst _ _ _ _ _) ?_
      rw [exI_snd] at hp ⊢
      split
      · rename_i h11
        rw [if_pos h11] at hp
        show putP (pu W inp c g).2 _ _ = (pu W inp c g).2
        have ho := (pu_out (W := W) (inp := inp) (c := c) a).1
        unfold putP at hp ⊢
        rw [if_pos ho] at hp
        obtain ⟨r, hr⟩ := hp
        have hl := congrArg List.length hr
        simp only [List.length_append, List.length_cons, List.length_nil] at hl
        have hg : (pu W inp c g).2.1[(pu W inp c a).1.out]? = some (topS (pu W inp c a).1.stack) := by
          rw [← hr, ho]
          simp
        rw [if_neg (by omega), if_pos hg]
      · rfl
    · rw [if_neg hs, if_neg hs]
end

/-- A life, by the document: what it knows, what was committed last, the printer. -/
structure Lf where
  m : Md
  k : Md
  p : Pr
section
variable (W : List Is) (inp : List Int)
def stepL (q : Bool) (x : Lf) : Lf := ⟨(stB W inp x.m x.p).1, if q && comB W x.m then (stB W inp x.m x.p).1 else x.k, (stB W inp x.m x.p).2⟩
def wakeL (x : Lf) : Lf := { x with m := x.k }
/-- So many instructions, as long as it goes on. -/
def runL : Nat → Lf → Lf × Nat
  | 0, x => (x, 0)
  | n + 1, x => if x.m.state = 0 then ((runL n (stepL W inp true x)).1, (runL n (stepL W inp true x)).2 + 1) else (x, 0)
/-- To the next commit, so many at most; keep: it stays. -/
def tearL (keep : Bool) : Nat → Lf → Lf × Nat
  | 0, x => (x, 0)
  | n + 1, x => if comB W x.m then (wakeL (stepL W inp keep x), 1) else if x.m.state = 0 then ((tearL keep n (stepL W inp true x)).1, (tearL keep n (stepL W inp true x)).2 + 1) else (x, 0)
/-- A step of a life: its kind, its N, does a commit that is torn stay? -/
def doL (kind : Int) (n : Nat) (keep : Bool) (x : Lf) : Lf × Nat := if kind = 2 then (wakeL x, 0) else if kind = 3 then tearL W inp keep n x else runL W inp n x
variable {W inp} {c : Nat}
/-- It is the life without crashes, somewhere; and so is what was committed last; what was printed is printed without crashes by g instructions. -/
def InvL (W : List Is) (inp : List Int) (c : Nat) (x : Lf) (g : Nat) : Prop := ∃ a b, x.m = (pu W inp c a).1 ∧ x.k = (pu W inp c b).1 ∧ x.p = (pu W inp c g).2 ∧ a ≤ g ∧ b ≤ g
theorem invL0 : InvL W inp c ⟨mind0 c, mind0 c, ([], false)⟩ 0 := ⟨0, 0, rfl, rfl, rfl, Nat.le_refl _, Nat.le_refl _⟩
theorem InvL.wake {x : Lf} {g : Nat} (h : InvL W inp c x g) : InvL W inp c (wakeL x) g := by
  obtain ⟨a, b, _, h2, h3, _, h5⟩ := h
  exact ⟨b, b, h2, h2, h3, h5, h5⟩
theorem InvL.step {x : Lf} {g : Nat} (h : InvL W inp c x g) (q : Bool) : ∃ g', g ≤ g' ∧ g' ≤ g + 1 ∧ InvL W inp c (stepL W inp q x) g' := by
  obtain ⟨a, b, h1, h2, h3, h4, h5⟩ := h
  have hs := pu_again (W := W) (inp := inp) (c := c) h4
  rw [← h1, ← h3] at hs
  refine ⟨max g (a + 1), by omega, by omega, ?_⟩
  unfold stepL
  rw [hs]
  cases q && comB W x.m
  · exact ⟨a + 1, b, rfl, h2, rfl, by omega, by omega⟩
  · exact ⟨a + 1, a + 1, rfl, rfl, rfl, by omega, by omega⟩
theorem InvL.run : ∀ (n : Nat) {x : Lf} {g : Nat}, InvL W inp c x g → ∃ g', g ≤ g' ∧ g' ≤ g + (runL W inp n x).2 ∧ InvL W inp c (runL W inp n x).1 g'
  | 0, x, g, h => ⟨g, Nat.le_refl _, Nat.le_refl _, h⟩
  | n + 1, x, g, h => by
    simp only [runL]
    split
    · obtain ⟨g1, a1, a2, a3⟩ := h.step true
      obtain ⟨g2, b1, b2, b3⟩ := InvL.run n a3
      exact ⟨g2, by omega, by simp only; omega, b3⟩
    · exact ⟨g, Nat.le_refl _, Nat.le_refl _, h⟩
theorem InvL.tear (keep : Bool) : ∀ (n : Nat) {x : Lf} {g : Nat}, InvL W inp c x g → ∃ g', g ≤ g' ∧ g' ≤ g + (tearL W inp keep n x).2 ∧ InvL W inp c (tearL W inp keep n x).1 g'
  | 0, x, g, h => ⟨g, Nat.le_refl _, Nat.le_refl _, h⟩
  | n + 1, x, g, h => by
    simp only [tearL]
    split
    · obtain ⟨g1, a1, a2, a3⟩ := h.step keep
      exact ⟨g1, a1, a2, a3.wake⟩
    split
    · obtain ⟨g1, a1, a2, a3⟩ := h.step true
      obtain ⟨g2, b1, b2, b3⟩ := InvL.tear keep n a3
      exact ⟨g2, by omega, by simp only; omega, b3⟩
    · exact ⟨g, Nat.le_refl _, Nat.le_refl _, h⟩
theorem InvL.does {x : Lf} {g : Nat} (h : InvL W inp c x g) (kind : Int) (n : Nat) (keep : Bool) : ∃ g', g ≤ g' ∧ g' ≤ g + (doL W inp kind n keep x).2 ∧ InvL W inp c (doL W inp kind n keep x).1 g' := by
  unfold doL
  split
  · exact ⟨g, Nat.le_refl _, Nat.le_refl _, h.wake⟩
  split
  · exact InvL.tear keep n h
  · exact InvL.run n h
/-- What was printed begins what is printed without crashes by as many instructions; nothing else was to be printed. -/
theorem InvL.prints {x : Lf} {g all : Nat} (h : InvL W inp c x g) (hg : g ≤ all) : x.p.1 <+: (pu W inp c all).2.1 ∧ x.p.2 = false := by
  obtain ⟨a, b, _, _, h3, _, _⟩ := h
  rw [h3]
  exact ⟨pu_pre hg, (pu_out g).2⟩
theorem runL_pu : ∀ (n : Nat) {x : Lf} {a g : Nat}, x.m = (pu W inp c a).1 → x.p = (pu W inp c g).2 → a ≤ g → (runL W inp n x).1.m = (pu W inp c (a + n)).1 ∧ (runL W inp n x).1.p = (pu W inp c (max g (a + n))).2
  | 0, x, a, g, h1, h2, h3 => ⟨h1, by rw [show max g (a + 0) = g by omega]; exact h2⟩
  | n + 1, x, a, g, h1, h2, h3 => by
    simp only [runL]
    split
    · have hs := pu_again (W := W) (inp := inp) (c := c) h3
      rw [← h1, ← h2] at hs
      have := runL_pu n (x := stepL W inp true x) (a := a + 1) (g := max g (a + 1)) (by unfold stepL; rw [hs]) (by unfold stepL; rw [hs]) (by omega)
      rw [show a + (n + 1) = a + 1 + n by omega, show max g (a + 1 + n) = max (max g (a + 1)) (a + 1 + n) by omega]
      exact this
    · rename_i hs
      rw [h1] at hs
      refine ⟨?_, ?_⟩
      · rw [pu_idle hs (a + (n + 1)) (by omega)]; exact h1
      · rw [pu_idle hs (max g (a + (n + 1))) (by omega), ← pu_idle hs g h3]; exact h2
/-- A life with crashes is a life without: where that one has come to its end by n instructions, a life that has as many at last comes to just that. -/
theorem InvL.same {x : Lf} {g n : Nat} (h : InvL W inp c x g) (hn : (pu W inp c n).1.state ≠ 0) : (runL W inp n x).1.m = (pu W inp c n).1 ∧ (runL W inp n x).1.p = (pu W inp c n).2 := by
  obtain ⟨a, b, h1, _, h3, h4, _⟩ := h
  obtain ⟨g1, g2⟩ := runL_pu n h1 h3 h4
  rw [g1, g2, pu_idle hn (a + n) (by omega), pu_idle hn (max g (a + n)) (by omega)]
  exact ⟨rfl, rfl⟩
/-- Behind a commit that was done nothing is lost. -/
theorem commit_kept {x : Lf} (h : comB W x.m = true) : wakeL (stepL W inp true x) = stepL W inp true x := by
  unfold wakeL stepL
  rw [h]
  rfl
end
end E
end Go.Proofs.Ytmdjgejahnmfmaf

/- Plain mathematics of the document's run: how far it comes. -/
namespace Go.Proofs.Ytmdjgejahnmfmaf
set_option maxRecDepth 20000
set_option maxHeartbeats 4000000
namespace E

theorem exI_read (inp : List Int) (x : Is) (m : Md) (p : Pr) : (exI inp x m p).1.read ≤ m.read + 1 := by
  simp only [exI, apply_ite Prod.fst, apply_ite Md.read, ite_self]
  repeat' split
  all_goals omega
theorem exI_state (inp : List Int) (x : Is) (m : Md) (p : Pr) (h : m.state ≤ 14) : (exI inp x m p).1.state ≤ 14 := by
  simp only [exI, apply_ite Prod.fst, apply_ite Md.state]
  repeat' split
  all_goals omega
section
variable {W : List Is} {inp : List Int} {c : Nat}
theorem pu_bounds : ∀ (k : Nat), (pu W inp c k).1.read ≤ k ∧ (pu W inp c k).2.1.length ≤ k ∧ (pu W inp c k).1.state ≤ 14
  | 0 => ⟨Nat.le_refl _, Nat.le_refl _, Nat.zero_le _⟩
  | k + 1 => by
    obtain ⟨h1, h2, h3⟩ := pu_bounds k
    have ho := (pu_out (W := W) (inp := inp) (c := c) k).1
    rw [pu_succ]
    unfold stB
    split
    · have e1 := exI_read inp (W.getD (pu W inp c k).1.next (0, 0, 0, 0)) (pu W inp c k).1 (pu W inp c k).2
      refine ⟨by omega, ?_, exI_state _ _ _ _ h3⟩
      rw [exI_snd]
      split
      · unfold putP
        rw [if_pos ho]
        simp only [List.length_append, List.length_cons, List.length_nil]
        omega
      · omega
    · exact ⟨by simp only; omega, by simp only; omega, h3⟩
theorem pu_fit {Q : List Is} (hQ : Sim c 0 Q 0) (hJ : Jmps c 0 Q) : ∀ (k : Nat), Fit c Q (pu (Q ++ [haltI]) inp c k).1 (pu (Q ++ [haltI]) inp c k).2
  | 0 => fit0 _
  | k + 1 => by
    rw [pu_succ]
    exact (pu_fit hQ hJ k).step hQ hJ
end
/-- Where the document's run leaves off is what the program says. -/
theorem idX_at {vs : List VarT} {body : List ST} (h : progFault vs body = 0) (inp : List Int) {fuel c n : Nat} (hn : n ≤ fuel) (hl : ∀ k < n, (pu (insP vs body) inp c k).1.state = 0) (he : n = fuel ∨ (pu (insP vs body) inp c n).1.state ≠ 0) :
    resX (evP vs inp fuel body (es0 c)) = (if (pu (insP vs body) inp c n).1.state = 0 then 13 else if (pu (insP vs body) inp c n).1.state = 1 then 0 else (pu (insP vs body) inp c n).1.state - 2, (pu (insP vs body) inp c n).2.1, (pu (insP vs body) inp c n).1.cells, n) := by
  obtain ⟨n0, m, out, h1, ⟨h2, h3⟩, h4, h5⟩ := runP h inp fuel c
  have h2 : pu (insP vs body) inp c n0 = (m, (out, false)) := h2
  have hnn : n = n0 := by
    rcases Nat.lt_trichotomy n n0 with hlt | rfl | hlt
    · have := h3 n hlt
      rcases he with rfl | he
      · omega
      · exact absurd this he
    · rfl
    · have := hl n0 hlt
      rw [h2] at this
      rcases h4 with rfl | h4
      · omega
      · exact absurd this h4
  subst hnn
  rw [h5, h2]
end E
end Go.Proofs.Ytmdjgejahnmfmaf

/- What the laws of package ideal take of it; their first look. -/
namespace Go.Proofs.Ytmdjgejahnmfmaf
set_option maxRecDepth 20000
set_option maxHeartbeats 4000000
namespace E
open Go.Proofs

/-- What Run tells: the Result's code, what was printed, the cells; how many instructions; a code. -/
structure Told where
  code : Int
  out : List Int
  cells : List Int
  used : Int
  fault : Int
def toldX (r : Nat × List Int × List Int × Nat) : Told := ⟨r.1, r.2.1, r.2.2.1, r.2.2.2, 0⟩
def saysX (vs : List VarT) (body : List ST) (inp : List Int) (fuel : Nat) : Ex Es := evP vs inp fuel body (es0 (sumV vs).toNat)
def runI (vs : List VarT) (body : List ST) (inp : List Int) (fuel : Int) : Told :=
  if progFault vs body = 0 then (if inp.length ≤ 40 ∧ 0 ≤ fuel ∧ fuel ≤ 3000 then toldX (resX (saysX vs body inp fuel.toNat)) else ⟨0, [], [], 0, 1⟩) else ⟨0, [], [], 0, progFault vs body⟩
/-- A list of numbers that lies there, and has as much room as it has numbers. -/
def LsC (w : World) (v : Value) (l : List Int) : Prop := LsV w v l ∧ ∀ a n cap, v = .slice a n cap → n ≤ cap
theorem LsC.keep0 {w w' : World} {v : Value} {l : List Int} (h : LsC w v l) (hk : Keep [] w w') : LsC w' v l := ⟨h.1.keep0 hk, h.2⟩
/-- It lies in memory that was not there in w. -/
def Nw (w : World) (v : Value) : Prop := ∀ b q n c, v = .slice (some ⟨b, q, none⟩) n c → 0 < n → w.heap.size ≤ b
/-- What is to be shown of package ideal. -/
structure IdC : Prop where
  run : ∀ {F : Nat → Prop} {w : World} {x iv : Value} {vs : List VarT} {body : List ST} {inp : List Int} (fuel : Int), ProgV F w x vs body → In F w → LsC w iv inp → vs.length ≤ 100000 → szSs body ≤ 1000 → inp.length ≤ 100000 →
    Ret Try.prog 8 [x, iv, .int .i64 fuel] w fun r w' => (∃ ov cv, r = .tuple #[.agg (resC (runI vs body inp fuel).code ov cv).toArray, .int .i64 (runI vs body inp fuel).used, .int .i64 (runI vs body inp fuel).fault] ∧ LsC w' ov (runI vs body inp fuel).out ∧ LsV w' cv (runI vs body inp fuel).cells ∧ Nw w ov ∧ Nw w cv) ∧ Keep [] w w'

/-- How far a run comes. -/
theorem says_at {vs : List VarT} {body : List ST} (h : progFault vs body = 0) (hsz : szSs body ≤ 1000) (inp : List Int) (fuel : Nat) :
    ∃ n m out, n ≤ fuel ∧ pu (insP vs body) inp (sumV vs).toNat n = (m, (out, false)) ∧ (∀ k < n, (pu (insP vs body) inp (sumV vs).toNat k).1.state = 0) ∧ (n = fuel ∨ m.state ≠ 0) ∧ m.state ≤ 14 ∧ m.cells.length ≤ 48 ∧ out.length ≤ n ∧
      resX (saysX vs body inp fuel) = (if m.state = 0 then 13 else if m.state = 1 then 0 else m.state - 2, out, m.cells, n) := by
  obtain ⟨n, m, out, h1, ⟨h2, h3⟩, h4, h5⟩ := runP h inp fuel (sumV vs).toNat
  have h2 : pu (insP vs body) inp (sumV vs).toNat n = (m, (out, false)) := h2
  obtain ⟨c, hc, h48, hP⟩ := prog_prg h hsz
  have hcc : c = (sumV vs).toNat := by omega
  have hf := pu_fit (inp := inp) hP.sim hP.jmp n
  rw [hcc, show insSs vs body 0 ++ [haltI] = insP vs body from rfl, h2] at hf
  obtain ⟨b1, b2, b3⟩ := pu_bounds (W := insP vs body) (inp := inp) (c := (sumV vs).toNat) n
  rw [h2] at b2 b3
  have hcl := hf.cells
  exact ⟨n, m, out, h1, h2, h3, h4, b3, by have : (m.cells.length : Int) = ((sumV vs).toNat : Int) := hcl; omega, b2, h5⟩
theorem runI_bnd {vs : List VarT} {body : List ST} (hsz : szSs body ≤ 1000) (inp : List Int) (fuel : Int) : (runI vs body inp fuel).out.length ≤ 3000 ∧ (runI vs body inp fuel).cells.length ≤ 48 := by
  unfold runI
  split
  · rename_i h
    split
    · obtain ⟨n, m, out, h1, _, _, _, _, h5, h6, h7⟩ := says_at h hsz inp fuel.toNat
      rw [h7]
      exact ⟨by show out.length ≤ 3000; omega, h5⟩
    · exact ⟨by simp, by simp⟩
  · exact ⟨by simp, by simp⟩
theorem runI_in {vs : List VarT} {body : List ST} {inp : List Int} {fuel : Int} (h : progFault vs body = 0) (hi : inp.length ≤ 40) (h0 : 0 ≤ fuel) (h3 : fuel ≤ 3000) : runI vs body inp fuel = toldX (resX (saysX vs body inp fuel.toNat)) := by
  unfold runI
  rw [if_pos h, if_pos ⟨hi, h0, h3⟩]
theorem runI_not {vs : List VarT} {body : List ST} {inp : List Int} {fuel : Int} (h : ¬ progFault vs body = 0) : runI vs body inp fuel = ⟨0, [], [], 0, progFault vs body⟩ := by
  unfold runI
  rw [if_neg h]
theorem runI_off {vs : List VarT} {body : List ST} {inp : List Int} {fuel : Int} (h : progFault vs body = 0) (hi : ¬ (inp.length ≤ 40 ∧ 0 ≤ fuel ∧ fuel ≤ 3000)) : runI vs body inp fuel = ⟨0, [], [], 0, 1⟩ := by
  unfold runI
  rw [if_pos h, if_neg hi]
theorem toldX_fault (r : Nat × List Int × List Int × Nat) : (toldX r).fault = 0 := rfl

/-! ### The first look -/
def jz : List Value := [.int .i64 0, .int .i64 0, .int .i64 0, .slice none 0 0]
def je : List Value := [.int .i64 1, .int .i64 0, .int .i64 5, .slice none 0 0]
def js : List Value := scells 3 0 je jz (.slice none 0 0) (.slice none 0 0)
def jE : ET := .mk 1 0 5 []
def jS : List ST := [.mk 3 0 jE zeroT [] []]
theorem built_je : Try.prog.built 42 [(0, .int .i64 1), (2, .int .i64 5)] = some je.toArray := by kernel_rfl
theorem built_js : Try.prog.built 44 [(0, .int .i64 3), (2, .agg je.toArray)] = some js.toArray := by kernel_rfl
theorem slice_js : sliceCells Try.prog 23 1 [(0, .agg js.toArray)] = some (44, js.toArray) := by kernel_rfl
theorem built_jp (b : Nat) : Try.prog.built 25 [(1, .slice (some ⟨b, 0, none⟩) 1 1)] = some [Value.slice none 0 0, .slice (some ⟨b, 0, none⟩) 1 1].toArray := by kernel_rfl
theorem built_j0 : Try.prog.built 25 [] = some [Value.slice none 0 0, .slice none 0 0].toArray := by kernel_rfl
theorem j_run : runI [] jS [] 9 = ⟨0, [5], [], 3, 0⟩ := by kernel_rfl
theorem j_none : runI [] [] [] 0 = ⟨13, [], [], 0, 0⟩ := by kernel_rfl
theorem ls_nil (w : World) : LsC w (.slice none 0 0) [] := ⟨⟨none, 0, rfl, fun h => absurd h (by simp)⟩, fun a n cap h => by injection h with h1 h2 h3; omega⟩

theorem idealBegun_ret (hI : IdC) (w : World) : Ret Try.prog 6 [] w fun r w' => r = .bool true ∧ Keep [] w w' := by
  refine ret_of 59 Try.func6 rfl rfl (by simp) ?_
  refine au ?_
  refine pl_val _ rfl rfl (val_build _ rfl rfl built_je w) ?_
  refine pl_val _ rfl rfl (val_build _ rfl rfl built_js w) ?_
  refine pl_op rfl rfl (opTo_sliceN _ _ rfl rfl slice_js ?_)
  intro w1 g hg hs1 hk1 hb1
  refine pl_val _ rfl rfl (val_build _ rfl rfl (built_jp g) w1) ?_
  have he : ExprV (fun c => c < w1.heap.size) w1 je jE := ExprV.of ExprsV.nil
  have hz : ExprV (fun c => c < w1.heap.size) w1 jz zeroT := ExprV.of ExprsV.nil
  have hst : StmtV (fun c => c < w1.heap.size) w1 js (.mk 3 0 jE zeroT [] []) := StmtV.of he hz StmtsV.nil StmtsV.nil
  have hs : StmtsV (fun c => c < w1.heap.size) w1 (.slice (some ⟨g, 0, none⟩) 1 1) jS := by
    refine ⟨_, 1, fun _ => js, rfl, fun _ => ⟨g, 0, rfl, hb1.lt, fun i hi => ?_⟩, fun i hi => ?_⟩
    · have : i = 0 := by simp [jS] at hi; omega
      subst this
      exact hb1.range rfl
    · have : i = 0 := by simp [jS] at hi; omega
      subst this
      exact hst
  have hv : VarsV (fun c => c < w1.heap.size) w1 (.slice none 0 0) [] := ⟨none, 0, rfl, Nat.le_refl _, fun h => absurd h (by simp)⟩
  refine pl_op rfl rfl (opTo_call (fst := []) (cap := []) rfl rfl rfl rfl (by decide +kernel) ((hI.run (F := fun c => c < w1.heap.size) (vs := []) (body := jS) (inp := []) 9 ⟨_, _, rfl, hv, hs⟩ (fun c hc => hc) (ls_nil _) (by decide) (by decide) (by decide)).mono ?_))
  rintro r w2 ⟨⟨ov, cv, rfl, ⟨hov, _⟩, hcv, _⟩, hk2⟩
  rw [j_run] at hov hcv ⊢
  obtain ⟨b7, q7, c7, rfl, hl7, hr7⟩ := hov.at (i := 0) (x := 5) rfl
  obtain ⟨ca1, cc1, rfl, _⟩ := hcv
  refine au ?_
  refine pl_op rfl rfl (opTo_allocN _ rfl zero_re ?_)
  intro w3 x3 hx3 hs3 hk3 hb3
  refine pl_op rfl rfl (opTo_storeN (resC 0 (.slice (some ⟨b7, q7, none⟩) 1 c7) (.slice ca1 0 cc1)) rfl rfl rfl rfl size_re hb3 (by simp [resC]) (resC_one _ _ _ _ _ _ _) ?_)
  intro w4 hs4 hk4 hb4
  rw [splice_whole (by rfl)] at hb4
  have hk24 : Keep [] w2 w4 := hk3.trB hk4 (by omega)
  refine au ?_
  refine pl_val _ rfl rfl (val_build _ rfl rfl built_j0 w4) ?_
  refine pl_op rfl rfl (opTo_call (fst := []) (cap := []) rfl rfl rfl rfl (by decide +kernel) ((hI.run (F := fun _ => False) (vs := []) (body := []) (inp := []) 0 ⟨_, _, rfl, ⟨none, 0, rfl, Nat.le_refl _, fun h => absurd h (by simp)⟩, StmtsV.nil⟩ (fun c hc => hc.elim) (ls_nil _) (by decide) (by decide) (by decide)).mono ?_))
  rintro r w5 ⟨⟨ov2, cv2, rfl, ⟨hov2, _⟩, hcv2, _⟩, hk5⟩
  rw [j_none] at hov2 hcv2 ⊢
  obtain ⟨oa2, oc2, rfl, _⟩ := hov2
  obtain ⟨ca2, cc2, rfl, _⟩ := hcv2
  refine au ?_
  refine pl_op rfl rfl (opTo_allocN _ rfl zero_re ?_)
  intro w6 x6 hx6 hs6 hk6 hb6
  refine pl_op rfl rfl (opTo_storeN (resC 13 (.slice oa2 0 oc2) (.slice ca2 0 cc2)) rfl rfl rfl rfl size_re hb6 (by simp [resC]) (resC_one _ _ _ _ _ _ _) ?_)
  intro w7 hs7 hk7 hb7
  rw [splice_whole (by rfl)] at hb7
  have hk57 : Keep [] w5 w7 := hk6.trB hk7 (by omega)
  have hb4' := (hk5.tr hk57).blk hb4 (by simp)
  have hr7' := range_keep hr7 ((hk24.tr hk5).tr hk57) hl7 (by simp)
  refine au ?_
  refine ye ?_
  refine au ?_
  refine ye ?_
  refine au ?_
  refine pl_val _ rfl rfl (val_load1 hT rfl rfl rfl (hb4'.cell rfl)) ?_
  refine ye ?_
  refine au ?_
  refine pl_val _ rfl rfl (val_load1 hT rfl rfl rfl (hb4'.cell rfl)) ?_
  refine au ?_
  refine ye ?_
  refine au ?_
  refine pl_val _ rfl rfl (val_load1 hT rfl rfl rfl (hb4'.cell rfl)) ?_
  refine pl_val _ rfl rfl (val_index 0 hT rfl rfl rfl rfl rfl (by decide) w7) ?_
  refine pl_val _ rfl rfl (val_load1 hT rfl rfl rfl (hr7' 0 (.int .i64 5) rfl)) ?_
  refine ye ?_
  refine au ?_
  refine ye ?_
  refine au ?_
  refine ye ?_
  refine au ?_
  refine pl_val _ rfl rfl (val_load1 hT rfl rfl rfl (hb7.cell rfl)) ?_
  refine ye ?_
  refine au ?_
  exact rn_ret Try.func6 (.inl ⟨_, rfl, rfl⟩) ⟨rfl, (((hk1.tr hk2).tr hk24).tr hk5).tr hk57⟩
end E
end Go.Proofs.Ytmdjgejahnmfmaf

/- The document's Begins and Ideal. -/
namespace Go.Proofs.Ytmdjgejahnmfmaf
set_option maxRecDepth 20000
set_option maxHeartbeats 4000000
namespace E
open Go.Proofs

theorem LsV.first {w : World} {a : Option Addr} {n cap : Nat} {l k : List Int} (h : LsV w (.slice a n cap) l) (hp : k <+: l) : LsV w (.slice a k.length cap) k := by
  obtain ⟨a', cap', hv, hr⟩ := h
  cases hv
  obtain ⟨r, rfl⟩ := hp
  refine ⟨a, cap, rfl, fun h0 => ?_⟩
  obtain ⟨b, q, h1, h2, h3⟩ := hr (by rw [List.length_append]; omega)
  refine ⟨b, q, h1, h2, fun j u hu => h3 j u ?_⟩
  rw [lgs_app, List.getElem?_append_left (List.getElem?_eq_some_iff.1 hu).1]
  exact hu
theorem begins_ret {w : World} {u v : Value} {l n : List Int} (hu : LsV w u l) (hv : LsC w v n) (hp : l <+: n) (hl : l.length ≤ 1000000) : Ret Try.prog 9 [u, v] w fun r w' => r = .bool true ∧ Keep [] w w' := by
  have hle := hp.length_le
  have hu' := hu
  obtain ⟨ua, uc, rfl, _⟩ := hu
  obtain ⟨hv1, hvc⟩ := hv
  have hv' := hv1
  obtain ⟨va, vc, rfl, _⟩ := hv1
  have hcap := hvc _ _ _ rfl
  refine ret_of 18 Try.func9 rfl rfl (by simp) ?_
  refine au ?_
  refine ye ?_
  refine au ?_
  refine pl_val _ rfl rfl (val_sliceTo l.length hT rfl rfl rfl rfl rfl (by omega) w) ?_
  refine pl_op rfl rfl (opTo_call (fst := []) (cap := []) rfl rfl rfl rfl (by decide +kernel) ((sameLs_ret hu' (hv'.first hp) hl).mono ?_))
  rintro r w1 ⟨rfl, hk1⟩
  refine au ?_
  exact rn_ret Try.func9 (.inl ⟨_, rfl, rfl⟩) ⟨rfl, hk1⟩
end E
end Go.Proofs.Ytmdjgejahnmfmaf
