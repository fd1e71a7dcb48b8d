/- Several texts in one: EvO, EvQ, IdM, LzM, Ops2, StrOps, Own, Ops3, StepB, Rd, RdL. -/
import Derived.Test.YtmplkogkphmmjafGreatJ02
import Derived.Test.YtmplkogkphmmjafGreatJ01
import Derived.Laws.CopyRow
import Derived.Laws.StructEq
import Derived.Laws.MakeOwn
import Derived.Deep.Slices
import Derived.OpenShut
/- Plain mathematics of what a program says, third part: a whole program; more instructions, more input, and no commits. -/
namespace Go.Proofs.YtmplkogkphmmjafGreat
set_option maxRecDepth 20000
set_option maxHeartbeats 4000000
namespace E

/-- What a run comes to: its code, what it printed, the cells, how many instructions. -/
def resX : Ex Es → Nat × List Int × List Int × Nat
  | .ok a => (0, a.out, a.cells, a.n)
  | .error e => (e.1, e.2.out, e.2.cells, e.2.n)
theorem simP {vs : List VarT} {body : List ST} (h : progFault vs body = 0) (inp : List Int) (fuel c : Nat) :
    Sims (insP vs body) inp fuel (mind0 c) (es0 c) (evP vs inp fuel body (es0 c)) id (fun a m => m.state = 1 ∧ m.cells = a.cells) := by
  obtain ⟨_, _, k, hk⟩ := progFault_ok h
  have hW : Seg (insP vs body) 0 (insSs vs body 0 ++ [haltI]) := fun j x hx => by rw [Nat.zero_add]; exact hx
  unfold evP
  refine Sims.bnd (simSs body hk 0 (es0 c) hW.left (Nat.zero_le _)) ?_
  rintro s1 m _ rfl _ hn1
  obtain ⟨hx, _⟩ := hW.right.head
  refine (Sims.tick1 hx rfl rfl hn1 rfl).mono ?_
  rintro s2 m ⟨rfl, rfl⟩
  exact ⟨rfl, rfl⟩
/-- The document's run: it goes on while it does, fuel times at most; what it is then. -/
theorem runP {vs : List VarT} {body : List ST} (h : progFault vs body = 0) (inp : List Int) (fuel c : Nat) :
    ∃ n m out, n ≤ fuel ∧ goB (insP vs body) inp n (mind0 c, ([], false)) (m, (out, false)) ∧ (n = fuel ∨ m.state ≠ 0) ∧
      resX (evP vs inp fuel body (es0 c)) = (if m.state = 0 then 13 else if m.state = 1 then 0 else m.state - 2, out, m.cells, n) := by
  have hs := simP h inp fuel c
  cases hX : evP vs inp fuel body (es0 c) with
  | ok a =>
    rw [hX] at hs
    obtain ⟨_, h2, m, h3, h4, h5⟩ := hs
    refine ⟨a.n, m, a.out, h2, h3, .inr (by omega), ?_⟩
    simp [resX, h4, h5]
  | error e =>
    rw [hX] at hs
    obtain ⟨_, h2, m, h3, h4, h5⟩ := hs
    refine ⟨e.2.n, m, e.2.out, h2, h3, ?_, ?_⟩
    · rcases h5 with ⟨_, h6, _⟩ | ⟨_, _, h6⟩
      · exact .inl h6
      · exact .inr (by omega)
    · rcases h5 with ⟨h5, _, h6⟩ | ⟨h5, h7, h6⟩
      · simp [resX, h4, h5, h6]
      · have e1 : ¬ m.state = 0 := by omega
        have e2 : ¬ m.state = 1 := by omega
        rw [if_neg e1, if_neg e2, h6, h4]
        rfl

/-! ### More instructions -/
def stX {α : Type} (st : α → Es) : Ex α → Es
  | .ok a => st a
  | .error e => e.2
/-- It has gone on from s. -/
def UpE (s t : Es) : Prop := s.n ≤ t.n ∧ s.out <+: t.out
theorem UpE.refl (s : Es) : UpE s s := ⟨Nat.le_refl _, List.prefix_refl _⟩
theorem UpE.trans {a b c : Es} (h : UpE a b) (h2 : UpE b c) : UpE a c := ⟨Nat.le_trans h.1 h2.1, h.2.trans h2.2⟩
theorem up_bnd {α β : Type} {st : α → Es} {st2 : β → Es} {X : Ex α} {f : α → Ex β} {s : Es} (h : UpE s (stX st X)) (h2 : ∀ a, UpE (st a) (stX st2 (f a))) : UpE s (stX st2 (bndX X f)) := by
  cases X with
  | ok a => exact h.trans (h2 a)
  | error e => exact h
theorem up_tick (fuel : Nat) (s : Es) : UpE s (stX id (tick fuel s)) := by
  unfold tick
  split
  · exact ⟨Nat.le_succ _, List.prefix_refl _⟩
  · exact UpE.refl s
section
variable (vs : List VarT) (inp : List Int) (fuel : Nat)
theorem up_sayE (op v n : Int) (xs : List Int) (s : Es) : UpE s (stX (fun a => a.2) (sayE vs op v n xs s)) := by
  unfold sayE
  repeat' split
  all_goals exact UpE.refl s
theorem up_sayS (op v x y : Int) (s : Es) : UpE s (stX id (sayS vs inp op v x y s)) := by
  unfold sayS
  repeat' split
  all_goals first
    | exact UpE.refl s
    | exact ⟨Nat.le_refl _, List.prefix_refl _⟩
    | exact ⟨Nat.le_refl _, List.prefix_append _ _⟩
mutual
theorem up_E : ∀ (t : ET) (s : Es), UpE s (stX (fun a => a.2) (evE vs fuel t s))
  | .mk op v n l, s => by
    simp only [evE]
    exact up_bnd (up_Es l s) fun a => up_bnd (st := id) (up_tick fuel a.2) fun s2 => up_sayE vs op v n a.1 s2
theorem up_Es : ∀ (l : List ET) (s : Es), UpE s (stX (fun a => a.2) (evEs vs fuel l s))
  | [], s => by simp only [evEs]; exact UpE.refl s
  | t :: r, s => by
    simp only [evEs]
    exact up_bnd (up_E t s) fun a => up_bnd (up_Es r a.2) fun c => UpE.refl _
end
theorem up_loop {ce : Es → Ex (Int × Es)} {cb : Es → Ex Es} (h1 : ∀ s, UpE s (stX (fun a => a.2) (ce s))) (h2 : ∀ s, UpE s (stX id (cb s))) : ∀ (g : Nat) (s : Es), UpE s (stX id (loopX fuel ce cb g s))
  | 0, s => UpE.refl s
  | g + 1, s => by
    simp only [loopX]
    refine up_bnd (h1 s) fun a => up_bnd (st := id) (up_tick fuel a.2) fun s2 => ?_
    split
    · exact UpE.refl _
    · exact up_bnd (h2 _) fun s3 => up_bnd (st := id) (up_tick fuel s3) fun s4 => up_loop h1 h2 g s4
theorem up_ite {b : Bool} {c : Es → Ex (Int × Es)} (h : ∀ s, UpE s (stX (fun a => a.2) (c s))) (s : Es) : UpE s (stX (fun a => a.2) (if b then c s else .ok (0, s))) := by
  cases b
  · exact UpE.refl s
  · exact h s
mutual
theorem up_S : ∀ (t : ST) (s : Es), UpE s (stX id (evS vs inp fuel t s))
  | .mk op v e f b o, s => by
    have hb := fun s => up_Ss b s
    have ho := fun s => up_Ss o s
    simp only [evS]
    split
    · exact up_loop fuel (up_E vs fuel e) hb _ s
    split
    · refine up_bnd (up_E vs fuel e s) fun a => up_bnd (st := id) (up_tick fuel a.2) fun s2 => ?_
      split
      · exact ho s2
      · exact up_bnd (hb s2) fun s3 => up_tick fuel s3
    · exact up_bnd (up_ite (up_E vs fuel e) s) fun a => up_bnd (up_ite (up_E vs fuel f) a.2) fun c => up_bnd (st := id) (up_tick fuel c.2) fun s2 => up_sayS vs inp op v a.1 c.1 s2
theorem up_Ss : ∀ (l : List ST) (s : Es), UpE s (stX id (evSs vs inp fuel l s))
  | [], s => by simp only [evSs]; exact UpE.refl s
  | t :: r, s => by
    simp only [evSs]
    exact up_bnd (up_S t s) fun s1 => up_Ss r s1
end
theorem up_P (body : List ST) (s : Es) : UpE s (stX id (evP vs inp fuel body s)) := up_bnd (up_Ss vs inp fuel body s) fun s1 => up_tick fuel s1
end

/-- Y is X with more instructions. -/
def MoreF {α : Type} (st : α → Es) (X Y : Ex α) : Prop := match X with
  | .ok a => Y = .ok a
  | .error e => (e.1 = 13 ∧ UpE e.2 (stX st Y)) ∨ (e.1 ≠ 13 ∧ Y = .error e)
theorem MoreF.bnd {α β : Type} {st : α → Es} {st2 : β → Es} {X Y : Ex α} {f g : α → Ex β} (h : MoreF st X Y) (h2 : ∀ a, MoreF st2 (f a) (g a)) (h3 : ∀ a, UpE (st a) (stX st2 (g a))) : MoreF st2 (bndX X f) (bndX Y g) := by
  cases X with
  | ok a =>
    rw [show Y = .ok a from h]
    exact h2 a
  | error e =>
    rcases h with ⟨h, hu⟩ | ⟨h, rfl⟩
    · exact .inl ⟨h, up_bnd hu h3⟩
    · exact .inr ⟨h, rfl⟩
theorem MoreF.refl {α : Type} {st : α → Es} (X : Ex α) : MoreF st X X := by
  cases X with
  | ok a => exact rfl
  | error e =>
    by_cases h : e.1 = 13
    · exact .inl ⟨h, UpE.refl _⟩
    · exact .inr ⟨h, rfl⟩
section
variable (vs : List VarT) (inp : List Int) {fuel more : Nat}
theorem more_tick (hm : fuel ≤ more) (s : Es) : MoreF id (tick fuel s) (tick more s) := by
  have hu := up_tick more s
  unfold tick at hu ⊢
  by_cases h : s.n < fuel
  · rw [if_pos h, if_pos (by omega)]
    exact rfl
  · rw [if_neg h]
    exact .inl ⟨rfl, hu⟩
mutual
theorem more_E (hm : fuel ≤ more) : ∀ (t : ET) (s : Es), MoreF (fun a => a.2) (evE vs fuel t s) (evE vs more t s)
  | .mk op v n l, s => by
    simp only [evE]
    exact (more_Es hm l s).bnd (fun a => (more_tick hm a.2).bnd (fun s2 => MoreF.refl _) fun s2 => up_sayE vs op v n a.1 s2) fun a => up_bnd (st := id) (up_tick more a.2) fun s2 => up_sayE vs op v n a.1 s2
theorem more_Es (hm : fuel ≤ more) : ∀ (l : List ET) (s : Es), MoreF (fun a => a.2) (evEs vs fuel l s) (evEs vs more l s)
  | [], s => by simp only [evEs]; exact MoreF.refl _
  | t :: r, s => by
    simp only [evEs]
    exact (more_E hm t s).bnd (fun a => (more_Es hm r a.2).bnd (fun c => MoreF.refl _) fun c => UpE.refl _) fun a => up_bnd (up_Es vs more r a.2) fun c => UpE.refl _
end
theorem more_loop (hm : fuel ≤ more) {ce ce' : Es → Ex (Int × Es)} {cb cb' : Es → Ex Es} (h1 : ∀ s, MoreF (fun a => a.2) (ce s) (ce' s)) (h2 : ∀ s, MoreF id (cb s) (cb' s)) (u1 : ∀ s, UpE s (stX (fun a => a.2) (ce' s))) (u2 : ∀ s, UpE s (stX id (cb' s))) :
    ∀ (g g' : Nat) (s : Es), g ≤ g' → MoreF id (loopX fuel ce cb g s) (loopX more ce' cb' g' s)
  | 0, g', s, _ => .inl ⟨rfl, up_loop more u1 u2 g' s⟩
  | g + 1, 0, _, hg => absurd hg (by omega)
  | g + 1, g' + 1, s, hg => by
    have hu : ∀ x : Int, ∀ s2 : Es, UpE s2 (stX id (if x = 0 then .ok s2 else bndX (cb' s2) fun s3 => bndX (tick more s3) fun s4 => loopX more ce' cb' g' s4)) := fun x s2 => by
      split
      · exact UpE.refl _
      · exact up_bnd (u2 _) fun s3 => up_bnd (st := id) (up_tick more s3) fun s4 => up_loop more u1 u2 g' s4
    simp only [loopX]
    refine (h1 s).bnd (fun a => (more_tick hm a.2).bnd (fun s2 => ?_) fun s2 => hu a.1 s2) fun a => up_bnd (st := id) (up_tick more a.2) fun s2 => hu a.1 s2
    by_cases h0 : a.1 = 0
    · rw [if_pos h0, if_pos h0]
      exact rfl
    · rw [if_neg h0, if_neg h0]
      exact (h2 s2).bnd (fun s3 => (more_tick hm s3).bnd (fun s4 => more_loop hm h1 h2 u1 u2 g g' s4 (by omega)) fun s4 => up_loop more u1 u2 g' s4) fun s3 => up_bnd (st := id) (up_tick more s3) fun s4 => up_loop more u1 u2 g' s4
theorem more_ite {b : Bool} {c c' : Es → Ex (Int × Es)} (h : ∀ s, MoreF (fun a => a.2) (c s) (c' s)) (s : Es) : MoreF (fun a => a.2) (if b then c s else .ok (0, s)) (if b then c' s else .ok (0, s)) := by
  cases b
  · exact rfl
  · exact h s
mutual
theorem more_S (hm : fuel ≤ more) : ∀ (t : ST) (s : Es), MoreF id (evS vs inp fuel t s) (evS vs inp more t s)
  | .mk op v e f b o, s => by
    have hb := fun s => more_Ss hm b s
    have ho := fun s => more_Ss hm o s
    simp only [evS]
    by_cases e5 : op = 5
    · rw [if_pos e5, if_pos e5]
      exact more_loop hm (more_E vs hm e) hb (up_E vs more e) (up_Ss vs inp more b) _ _ s (by omega)
    rw [if_neg e5, if_neg e5]
    by_cases e6 : op = 6
    · rw [if_pos e6, if_pos e6]
      have hu : ∀ x : Int, ∀ s2 : Es, UpE s2 (stX id (if x = 0 then evSs vs inp more o s2 else bndX (evSs vs inp more b s2) fun s3 => tick more s3)) := fun x s2 => by
        split
        · exact up_Ss vs inp more o s2
        · exact up_bnd (up_Ss vs inp more b s2) fun s3 => up_tick more s3
      refine (more_E vs hm e s).bnd (fun a => (more_tick hm a.2).bnd (fun s2 => ?_) fun s2 => hu a.1 s2) fun a => up_bnd (st := id) (up_tick more a.2) fun s2 => hu a.1 s2
      by_cases h0 : a.1 = 0
      · rw [if_pos h0, if_pos h0]
        exact ho s2
      · rw [if_neg h0, if_neg h0]
        exact (hb s2).bnd (fun s3 => more_tick hm s3) fun s3 => up_tick more s3
    rw [if_neg e6, if_neg e6]
    exact (more_ite (more_E vs hm e) s).bnd (fun a => (more_ite (more_E vs hm f) a.2).bnd (fun c => (more_tick hm c.2).bnd (fun s2 => MoreF.refl _) fun s2 => up_sayS vs inp op v a.1 c.1 s2) fun c => up_bnd (st := id) (up_tick more c.2) fun s2 => up_sayS vs inp op v a.1 c.1 s2)
      fun a => up_bnd (up_ite (up_E vs more f) a.2) fun c => up_bnd (st := id) (up_tick more c.2) fun s2 => up_sayS vs inp op v a.1 c.1 s2
theorem more_Ss (hm : fuel ≤ more) : ∀ (l : List ST) (s : Es), MoreF id (evSs vs inp fuel l s) (evSs vs inp more l s)
  | [], s => by simp only [evSs]; exact MoreF.refl _
  | t :: r, s => by
    simp only [evSs]
    exact (more_S hm t s).bnd (fun s1 => more_Ss hm r s1) fun s1 => up_Ss vs inp more r s1
end
theorem more_P (hm : fuel ≤ more) (body : List ST) (s : Es) : MoreF id (evP vs inp fuel body s) (evP vs inp more body s) := (more_Ss vs inp hm body s).bnd (fun s1 => more_tick hm s1) fun s1 => up_tick more s1
end
end E
end Go.Proofs.YtmplkogkphmmjafGreat

/- Plain mathematics of what a program says, fourth part: what is not read, and what is not committed. -/
namespace Go.Proofs.YtmplkogkphmmjafGreat
set_option maxRecDepth 20000
set_option maxHeartbeats 4000000
namespace E

/-! ### More input -/
/-- The same, unless a number was wanting. -/
def MoreI {α : Type} (X Y : Ex α) : Prop := match X with
  | .ok a => Y = .ok a
  | .error e => e.1 = 12 ∨ Y = .error e
theorem MoreI.refl {α : Type} (X : Ex α) : MoreI X X := by
  cases X with
  | ok a => exact rfl
  | error e => exact .inr rfl
theorem MoreI.bnd {α β : Type} {X Y : Ex α} {f g : α → Ex β} (h : MoreI X Y) (h2 : ∀ a, MoreI (f a) (g a)) : MoreI (bndX X f) (bndX Y g) := by
  cases X with
  | ok a =>
    rw [show Y = .ok a from h]
    exact h2 a
  | error e =>
    rcases h with h | rfl
    · exact .inl h
    · exact .inr rfl
section
variable (vs : List VarT) (inp inp2 : List Int) (fuel : Nat)
theorem inp_sayS (op v x y : Int) (s : Es) : MoreI (sayS vs inp op v x y s) (sayS vs (inp ++ inp2) op v x y s) := by
  unfold sayS
  by_cases e1 : op = 1
  · rw [if_pos e1, if_pos e1]; exact rfl
  rw [if_neg e1, if_neg e1]
  by_cases e2 : op = 2
  · rw [if_pos e2, if_pos e2]; exact MoreI.refl _
  rw [if_neg e2, if_neg e2]
  by_cases e3 : op = 3
  · rw [if_pos e3, if_pos e3]; exact rfl
  rw [if_neg e3, if_neg e3]
  by_cases e4 : op = 4
  · rw [if_pos e4, if_pos e4]
    by_cases hr : s.read < inp.length
    · have hr2 : s.read < (inp ++ inp2).length := by simp; omega
      have hg : (inp ++ inp2).getD s.read 0 = inp.getD s.read 0 := by
        rw [List.getD_eq_getElem?_getD, List.getElem?_append_left hr, ← List.getD_eq_getElem?_getD]
      rw [if_pos hr, if_pos hr2, hg]
      exact rfl
    · rw [if_neg hr]
      exact .inl rfl
  rw [if_neg e4, if_neg e4]
  exact rfl
theorem inp_loop {ce : Es → Ex (Int × Es)} {cb cb' : Es → Ex Es} (h2 : ∀ s, MoreI (cb s) (cb' s)) : ∀ (g : Nat) (s : Es), MoreI (loopX fuel ce cb g s) (loopX fuel ce cb' g s)
  | 0, s => .inr rfl
  | g + 1, s => by
    simp only [loopX]
    refine (MoreI.refl _).bnd fun a => (MoreI.refl _).bnd fun s2 => ?_
    by_cases h0 : a.1 = 0
    · rw [if_pos h0, if_pos h0]
      exact rfl
    · rw [if_neg h0, if_neg h0]
      exact (h2 s2).bnd fun s3 => (MoreI.refl _).bnd fun s4 => inp_loop h2 g s4
mutual
theorem inp_S : ∀ (t : ST) (s : Es), MoreI (evS vs inp fuel t s) (evS vs (inp ++ inp2) fuel t s)
  | .mk op v e f b o, s => by
    have hb := fun s => inp_Ss b s
    have ho := fun s => inp_Ss o s
    simp only [evS]
    by_cases e5 : op = 5
    · rw [if_pos e5, if_pos e5]
      exact inp_loop fuel hb _ s
    rw [if_neg e5, if_neg e5]
    by_cases e6 : op = 6
    · rw [if_pos e6, if_pos e6]
      refine (MoreI.refl _).bnd fun a => (MoreI.refl _).bnd fun s2 => ?_
      by_cases h0 : a.1 = 0
      · rw [if_pos h0, if_pos h0]
        exact ho s2
      · rw [if_neg h0, if_neg h0]
        exact (hb s2).bnd fun s3 => MoreI.refl _
    rw [if_neg e6, if_neg e6]
    exact (MoreI.refl _).bnd fun a => (MoreI.refl _).bnd fun c => (MoreI.refl _).bnd fun s2 => inp_sayS vs inp inp2 op v a.1 c.1 s2
theorem inp_Ss : ∀ (l : List ST) (s : Es), MoreI (evSs vs inp fuel l s) (evSs vs (inp ++ inp2) fuel l s)
  | [], s => by simp only [evSs]; exact rfl
  | t :: r, s => by
    simp only [evSs]
    exact (inp_S t s).bnd fun s1 => inp_Ss r s1
end
theorem inp_P (body : List ST) (s : Es) : MoreI (evP vs inp fuel body s) (evP vs (inp ++ inp2) fuel body s) := (inp_Ss vs inp inp2 fuel body s).bnd fun _ => MoreI.refl _
end

/-! ### Without commits -/
def opT : ST → Int
  | .mk op _ _ _ _ _ => op
mutual
def calmS : ST → ST
  | .mk op v e f b o => .mk op v e f (calmL b) (calmL o)
def calmL : List ST → List ST
  | [] => []
  | t :: r => if opT t = 7 then calmL r else calmS t :: calmL r
end
/-- The same, by no more instructions. -/
def Less (s t : Es) : Prop := t.n ≤ s.n ∧ t.read = s.read ∧ t.out = s.out ∧ t.cells = s.cells
theorem Less.refl (s : Es) : Less s s := ⟨Nat.le_refl _, rfl, rfl, rfl⟩
def LessX {α : Type} (R : α → α → Prop) (X Y : Ex α) : Prop := match X with
  | .ok a => ∃ c, Y = .ok c ∧ R a c
  | .error e => e.1 = 13 ∨ ∃ e', Y = .error e' ∧ e'.1 = e.1 ∧ Less e.2 e'.2
theorem LessX.bnd {α β : Type} {R : α → α → Prop} {R2 : β → β → Prop} {X Y : Ex α} {f g : α → Ex β} (h : LessX R X Y) (h2 : ∀ a c, R a c → LessX R2 (f a) (g c)) : LessX R2 (bndX X f) (bndX Y g) := by
  cases X with
  | ok a =>
    obtain ⟨c, rfl, hr⟩ := h
    exact h2 a c hr
  | error e =>
    rcases h with h | ⟨e', rfl, h⟩
    · exact .inl h
    · exact .inr ⟨e', rfl, h⟩
def LessV {α : Type} (a c : α × Es) : Prop := c.1 = a.1 ∧ Less a.2 c.2
theorem less_tick {fuel : Nat} {s t : Es} (h : Less s t) : LessX Less (tick fuel s) (tick fuel t) := by
  obtain ⟨h1, h2, h3, h4⟩ := h
  unfold tick
  by_cases hs : s.n < fuel
  · rw [if_pos hs, if_pos (by omega)]
    exact ⟨_, rfl, by show t.n + 1 ≤ s.n + 1; omega, h2, h3, h4⟩
  · rw [if_neg hs]
    exact .inl rfl
section
variable (vs : List VarT) (inp : List Int) (fuel : Nat)
theorem less_sayE (op v n : Int) (xs : List Int) {s t : Es} (h : Less s t) : LessX LessV (sayE vs op v n xs s) (sayE vs op v n xs t) := by
  have h4 := h.2.2.2
  unfold sayE
  rw [h4]
  by_cases e1 : op = 1
  · rw [if_pos e1, if_pos e1]; exact ⟨_, rfl, rfl, h⟩
  rw [if_neg e1, if_neg e1]
  by_cases e2 : op = 2
  · rw [if_pos e2, if_pos e2]; exact ⟨_, rfl, rfl, h⟩
  rw [if_neg e2, if_neg e2]
  by_cases e3 : op = 3
  · rw [if_pos e3, if_pos e3]
    split
    · exact ⟨_, rfl, rfl, h⟩
    · exact .inr ⟨_, rfl, rfl, h⟩
  rw [if_neg e3, if_neg e3]
  exact ⟨_, rfl, rfl, h⟩
theorem less_sayS (op v x y : Int) {s t : Es} (h : Less s t) : LessX Less (sayS vs inp op v x y s) (sayS vs inp op v x y t) := by
  obtain ⟨h1, h2, h3, h4⟩ := h
  unfold sayS
  rw [h2, h3, h4]
  by_cases e1 : op = 1
  · rw [if_pos e1, if_pos e1]; exact ⟨_, rfl, h1, rfl, rfl, rfl⟩
  rw [if_neg e1, if_neg e1]
  by_cases e2 : op = 2
  · rw [if_pos e2, if_pos e2]
    split
    · exact ⟨_, rfl, h1, rfl, rfl, rfl⟩
    · exact .inr ⟨_, rfl, rfl, h1, h2, h3, h4⟩
  rw [if_neg e2, if_neg e2]
  by_cases e3 : op = 3
  · rw [if_pos e3, if_pos e3]; exact ⟨_, rfl, h1, rfl, rfl, rfl⟩
  rw [if_neg e3, if_neg e3]
  by_cases e4 : op = 4
  · rw [if_pos e4, if_pos e4]
    split
    · exact ⟨_, rfl, h1, rfl, rfl, rfl⟩
    · exact .inr ⟨_, rfl, rfl, h1, h2, h3, h4⟩
  rw [if_neg e4, if_neg e4]
  exact ⟨_, rfl, h1, h2, h3, h4⟩
mutual
theorem less_E : ∀ (x : ET) {s t : Es}, Less s t → LessX LessV (evE vs fuel x s) (evE vs fuel x t)
  | .mk op v n l, s, t, h => by
    simp only [evE]
    refine (less_Es l h).bnd fun a c hac => (less_tick hac.2).bnd fun s2 t2 h2 => ?_
    rw [hac.1]
    exact less_sayE vs op v n a.1 h2
theorem less_Es : ∀ (l : List ET) {s t : Es}, Less s t → LessX LessV (evEs vs fuel l s) (evEs vs fuel l t)
  | [], s, t, h => by simp only [evEs]; exact ⟨_, rfl, rfl, h⟩
  | x :: r, s, t, h => by
    simp only [evEs]
    exact (less_E x h).bnd fun a c hac => (less_Es r hac.2).bnd fun d e hde => ⟨_, rfl, by rw [hac.1, hde.1], hde.2⟩
end
theorem less_loop {ce : Es → Ex (Int × Es)} {cb cb' : Es → Ex Es} (h1 : ∀ s t, Less s t → LessX LessV (ce s) (ce t)) (h2 : ∀ s t, Less s t → LessX Less (cb s) (cb' t)) : ∀ (g : Nat) (s t : Es), Less s t → LessX Less (loopX fuel ce cb g s) (loopX fuel ce cb' g t)
  | 0, s, t, _ => .inl rfl
  | g + 1, s, t, h => by
    simp only [loopX]
    refine (h1 s t h).bnd fun a c hac => (less_tick hac.2).bnd fun s2 t2 hst => ?_
    rw [hac.1]
    by_cases h0 : a.1 = 0
    · rw [if_pos h0, if_pos h0]
      exact ⟨_, rfl, hst⟩
    · rw [if_neg h0, if_neg h0]
      exact (h2 s2 t2 hst).bnd fun s3 t3 h3 => (less_tick h3).bnd fun s4 t4 h4 => less_loop h1 h2 g s4 t4 h4
theorem less_ite {b : Bool} {c : Es → Ex (Int × Es)} (h1 : ∀ s t, Less s t → LessX LessV (c s) (c t)) {s t : Es} (h : Less s t) : LessX LessV (if b then c s else .ok (0, s)) (if b then c t else .ok (0, t)) := by
  cases b
  · exact ⟨_, rfl, rfl, h⟩
  · exact h1 s t h
mutual
theorem less_S : ∀ (x : ST) {s t : Es}, Less s t → LessX Less (evS vs inp fuel x s) (evS vs inp fuel (calmS x) t)
  | .mk op v e f b o, s, t, h => by
    have hb : ∀ s t, Less s t → LessX Less (evSs vs inp fuel b s) (evSs vs inp fuel (calmL b) t) := fun s t h => less_Ss b h
    have ho : ∀ s t, Less s t → LessX Less (evSs vs inp fuel o s) (evSs vs inp fuel (calmL o) t) := fun s t h => less_Ss o h
    have he : ∀ s t, Less s t → LessX LessV (evE vs fuel e s) (evE vs fuel e t) := fun s t h => less_E vs fuel e h
    have hf : ∀ s t, Less s t → LessX LessV (evE vs fuel f s) (evE vs fuel f t) := fun s t h => less_E vs fuel f h
    simp only [calmS, evS]
    by_cases e5 : op = 5
    · rw [if_pos e5, if_pos e5]
      exact less_loop fuel he hb _ s t h
    rw [if_neg e5, if_neg e5]
    by_cases e6 : op = 6
    · rw [if_pos e6, if_pos e6]
      refine (he s t h).bnd fun a c hac => (less_tick hac.2).bnd fun s2 t2 hst => ?_
      rw [hac.1]
      by_cases h0 : a.1 = 0
      · rw [if_pos h0, if_pos h0]
        exact ho s2 t2 hst
      · rw [if_neg h0, if_neg h0]
        exact (hb s2 t2 hst).bnd fun s3 t3 h3 => less_tick h3
    rw [if_neg e6, if_neg e6]
    refine (less_ite he h).bnd fun a c hac => (less_ite hf hac.2).bnd fun a2 c2 hac2 => (less_tick hac2.2).bnd fun s2 t2 hst => ?_
    rw [hac.1, hac2.1]
    exact less_sayS vs inp op v a.1 a2.1 hst
theorem less_Ss : ∀ (l : List ST) {s t : Es}, Less s t → LessX Less (evSs vs inp fuel l s) (evSs vs inp fuel (calmL l) t)
  | [], s, t, h => by simp only [calmL, evSs]; exact ⟨_, rfl, h⟩
  | x :: r, s, t, h => by
    have hr : ∀ s t, Less s t → LessX Less (evSs vs inp fuel r s) (evSs vs inp fuel (calmL r) t) := fun s t h => less_Ss r h
    have hx : LessX Less (evS vs inp fuel x s) (evS vs inp fuel (calmS x) t) := less_S x h
    simp only [calmL]
    by_cases h7 : opT x = 7
    · rw [if_pos h7]
      simp only [evSs]
      have hst : LessX Less (evS vs inp fuel x s) (.ok t) := by
        cases x with
        | mk op v e f b o =>
          have h7 : op = 7 := h7
          subst h7
          simp only [evS]
          rw [if_neg (by decide), if_neg (by decide)]
          show LessX Less (bndX (tick fuel s) fun s2 => sayS vs inp 7 v 0 0 s2) (.ok t)
          unfold tick
          by_cases hs : s.n < fuel
          · rw [if_pos hs]
            obtain ⟨h1, h2, h3, h4⟩ := h
            exact ⟨t, rfl, by show t.n ≤ s.n + 1; omega, h2, h3, h4⟩
          · rw [if_neg hs]
            exact .inl rfl
      exact LessX.bnd (Y := .ok t) (g := fun t2 => evSs vs inp fuel (calmL r) t2) hst fun s1 t1 h1 => hr s1 t1 h1
    · rw [if_neg h7]
      simp only [evSs]
      exact hx.bnd fun s1 t1 h1 => hr s1 t1 h1
end
theorem less_P (body : List ST) {s t : Es} (h : Less s t) : LessX Less (evP vs inp fuel body s) (evP vs inp fuel (calmL body) t) := (less_Ss vs inp fuel body h).bnd fun _ _ h1 => less_tick h1
end
/-! What has no commits is a program, too. -/
theorem calmL_len : ∀ (l : List ST), (calmL l).length ≤ l.length
  | [] => by simp [calmL]
  | t :: r => by
    have := calmL_len r
    simp only [calmL]
    split
    · simp only [List.length_cons]; omega
    · simp only [List.length_cons]; omega
theorem ownS_less {nv : Nat} {op v : Int} {e f : ET} {lb lo lb' lo' : Nat} (h : ownS nv op v e f lb lo = 0) (h1 : lb' ≤ lb) (h2 : lo' ≤ lo) : ownS nv op v e f lb' lo' = 0 := by
  unfold ownS at h ⊢
  split at h
  · exact absurd h (by decide)
  rename_i c1
  rw [if_neg c1]
  split at h
  · exact absurd h (by decide)
  rename_i c2
  rw [if_neg c2]
  split at h
  · exact absurd h (by decide)
  rename_i c3
  rw [if_neg, h]
  intro hc
  apply c3
  simp only [Bool.or_eq_true, Bool.and_eq_true, decide_eq_true_eq] at hc ⊢
  rcases hc with ⟨a, c⟩ | ⟨a, c⟩
  · exact .inl ⟨a, by omega⟩
  · exact .inr ⟨a, by omega⟩
theorem ite_less {nv : Nat} {b : Bool} {e : ET} {d k k' m : Nat} (h : (if b then chkE nv e d k else .ok k) = .ok k') (hm : m ≤ k) : ∃ m', (if b then chkE nv e d m else .ok m) = .ok m' ∧ m' ≤ k' := by
  obtain ⟨c, rfl, hc⟩ := (Roomy.ite b (roomyE nv e)) d k k' h
  exact ⟨m + c, hc d m (Nat.le_refl _) hm, by omega⟩
mutual
theorem chkS_calm (nv : Nat) : ∀ (t : ST) {d k k' m : Nat}, chkS nv t d k = .ok k' → m ≤ k → ∃ m', chkS nv (calmS t) d m = .ok m' ∧ m' ≤ k'
  | .mk op v e f b o, d, k, k', m, h, hm => by
    simp only [chkS] at h
    obtain ⟨k1, h1, h⟩ := nextK_ok h
    obtain ⟨rfl, hd, hk⟩ := headK_ok h1
    split at h
    · cases h
    rename_i ho
    obtain ⟨k2, h2, h⟩ := nextK_ok h
    obtain ⟨k3, h3, h⟩ := nextK_ok h
    obtain ⟨k4, h4, h⟩ := nextK_ok h
    obtain ⟨m2, g2, hm2⟩ := ite_less h2 (show m + 1 ≤ k + 1 by omega)
    obtain ⟨m3, g3, hm3⟩ := ite_less h3 hm2
    obtain ⟨m4, g4, hm4⟩ := chkSs_calm nv b h4 hm3
    obtain ⟨m5, g5, hm5⟩ := chkSs_calm nv o h hm4
    refine ⟨m5, ?_, hm5⟩
    have ho' : ownS nv op v e f (calmL b).length (calmL o).length = 0 := ownS_less (by omega) (calmL_len b) (calmL_len o)
    simp only [calmS, chkS]
    rw [headK_mk hd (by omega)]
    simp only [nextK]
    rw [ho', if_neg (by simp), g2]
    simp only
    rw [g3]
    simp only
    rw [g4]
    simp only
    rw [g5]
theorem chkSs_calm (nv : Nat) : ∀ (l : List ST) {d k k' m : Nat}, chkSs nv l d k = .ok k' → m ≤ k → ∃ m', chkSs nv (calmL l) d m = .ok m' ∧ m' ≤ k'
  | [], d, k, k', m, h, hm => by
    simp only [chkSs, Except.ok.injEq] at h
    subst h
    exact ⟨m, by simp only [calmL, chkSs], hm⟩
  | t :: r, d, k, k', m, h, hm => by
    simp only [chkSs] at h
    obtain ⟨k1, h1, h⟩ := nextK_ok h
    obtain ⟨m1, g1, hm1⟩ := chkS_calm nv t h1 hm
    simp only [calmL]
    split
    · obtain ⟨c, hc, _⟩ := roomyS nv t d k k1 h1
      exact chkSs_calm nv r h (by omega)
    · obtain ⟨m2, g2, hm2⟩ := chkSs_calm nv r h hm1
      refine ⟨m2, ?_, hm2⟩
      simp only [chkSs]
      rw [g1]
      simp only [nextK]
      exact g2
end
theorem progFault_calm {vs : List VarT} {body : List ST} (h : progFault vs body = 0) : progFault vs (calmL body) = 0 := by
  obtain ⟨h1, h2, k, h3⟩ := progFault_ok h
  obtain ⟨m, h4, _⟩ := chkSs_calm vs.length body h3 (Nat.le_refl 0)
  exact progFault_mk h1 h2 h4
end E
end Go.Proofs.YtmplkogkphmmjafGreat

/- Plain mathematics of the document's run: how far it comes. -/
namespace Go.Proofs.YtmplkogkphmmjafGreat
set_option maxRecDepth 20000
set_option maxHeartbeats 4000000
namespace E

theorem exI_read (inp : List Int) (x : Is) (m : Md) (p : Pr) : (exI inp x m p).1.read ≤ m.read + 1 := by
  simp only [exI, apply_ite Prod.fst, apply_ite Md.read, ite_self]
  repeat' split
  all_goals omega
theorem exI_state (inp : List Int) (x : Is) (m : Md) (p : Pr) (h : m.state ≤ 14) : (exI inp x m p).1.state ≤ 14 := by
  simp only [exI, apply_ite Prod.fst, apply_ite Md.state]
  repeat' split
  all_goals omega
section
variable {W : List Is} {inp : List Int} {c : Nat}
theorem pu_bounds : ∀ (k : Nat), (pu W inp c k).1.read ≤ k ∧ (pu W inp c k).2.1.length ≤ k ∧ (pu W inp c k).1.state ≤ 14
  | 0 => ⟨Nat.le_refl _, Nat.le_refl _, Nat.zero_le _⟩
  | k + 1 => by
    obtain ⟨h1, h2, h3⟩ := pu_bounds k
    have ho := (pu_out (W := W) (inp := inp) (c := c) k).1
    rw [pu_succ]
    unfold stB
    split
    · have e1 := exI_read inp (W.getD (pu W inp c k).1.next (0, 0, 0, 0)) (pu W inp c k).1 (pu W inp c k).2
      refine ⟨by omega, ?_, exI_state _ _ _ _ h3⟩
      rw [exI_snd]
      split
      · unfold putP
        rw [if_pos ho]
        simp only [List.length_append, List.length_cons, List.length_nil]
        omega
      · omega
    · exact ⟨by simp only; omega, by simp only; omega, h3⟩
theorem pu_fit {Q : List Is} (hQ : Sim c 0 Q 0) (hJ : Jmps c 0 Q) : ∀ (k : Nat), Fit c Q (pu (Q ++ [haltI]) inp c k).1 (pu (Q ++ [haltI]) inp c k).2
  | 0 => fit0 _
  | k + 1 => by
    rw [pu_succ]
    exact (pu_fit hQ hJ k).step hQ hJ
end
/-- Where the document's run leaves off is what the program says. -/
theorem idX_at {vs : List VarT} {body : List ST} (h : progFault vs body = 0) (inp : List Int) {fuel c n : Nat} (hn : n ≤ fuel) (hl : ∀ k < n, (pu (insP vs body) inp c k).1.state = 0) (he : n = fuel ∨ (pu (insP vs body) inp c n).1.state ≠ 0) :
    resX (evP vs inp fuel body (es0 c)) = (if (pu (insP vs body) inp c n).1.state = 0 then 13 else if (pu (insP vs body) inp c n).1.state = 1 then 0 else (pu (insP vs body) inp c n).1.state - 2, (pu (insP vs body) inp c n).2.1, (pu (insP vs body) inp c n).1.cells, n) := by
  obtain ⟨n0, m, out, h1, ⟨h2, h3⟩, h4, h5⟩ := runP h inp fuel c
  have h2 : pu (insP vs body) inp c n0 = (m, (out, false)) := h2
  have hnn : n = n0 := by
    rcases Nat.lt_trichotomy n n0 with hlt | rfl | hlt
    · have := h3 n hlt
      rcases he with rfl | he
      · omega
      · exact absurd this he
    · rfl
    · have := hl n0 hlt
      rw [h2] at this
      rcases h4 with rfl | h4
      · omega
      · exact absurd this h4
  subst hnn
  rw [h5, h2]
end E
end Go.Proofs.YtmplkogkphmmjafGreat

/- Plain mathematics of a life with its words: what it knows, the words in which that stands, what was committed last of both. -/
namespace Go.Proofs.YtmplkogkphmmjafGreat
set_option maxRecDepth 20000
set_option maxHeartbeats 4000000
namespace E

/-- A life; the words of its memory, those that were committed last, how many commits there were. -/
structure Lz where
  lf : Lf
  W : List Int
  KW : List Int
  gen : Int
section
variable (nw : List Is → List Int → Md → List Int → List Int) (L : List Is) (inp : List Int)
def stepZ (q : Bool) (z : Lz) : Lz :=
  if q && comB L z.lf.m then ⟨stepL L inp q z.lf, nw L inp z.lf.m z.W, nw L inp z.lf.m z.W, z.gen + 1⟩ else ⟨stepL L inp q z.lf, nw L inp z.lf.m z.W, z.KW, z.gen⟩
def wakeZ (z : Lz) : Lz := ⟨wakeL z.lf, z.KW, z.KW, z.gen⟩
def runZ : Nat → Lz → Lz × Nat
  | 0, z => (z, 0)
  | n + 1, z => if z.lf.m.state = 0 then ((runZ n (stepZ nw L inp true z)).1, (runZ n (stepZ nw L inp true z)).2 + 1) else (z, 0)
def tearZ (keep : Bool) : Nat → Lz → Lz × Nat
  | 0, z => (z, 0)
  | n + 1, z => if comB L z.lf.m then (wakeZ (stepZ nw L inp keep z), 1) else if z.lf.m.state = 0 then ((tearZ keep n (stepZ nw L inp true z)).1, (tearZ keep n (stepZ nw L inp true z)).2 + 1) else (z, 0)
/-- A step: its kind, its N; does a commit that is torn stay? -/
def doZ (kind : Int) (n : Nat) (keep : Bool) (z : Lz) : Lz × Nat := if kind = 2 then (wakeZ z, 0) else if kind = 3 then tearZ nw L inp keep n z else runZ nw L inp n z
variable {nw L inp}
theorem stepZ_lf (q : Bool) (z : Lz) : (stepZ nw L inp q z).lf = stepL L inp q z.lf := by
  unfold stepZ
  split <;> rfl
theorem runZ_lf : ∀ (n : Nat) (z : Lz), (runZ nw L inp n z).1.lf = (runL L inp n z.lf).1 ∧ (runZ nw L inp n z).2 = (runL L inp n z.lf).2
  | 0, z => ⟨rfl, rfl⟩
  | n + 1, z => by
    obtain ⟨h1, h2⟩ := runZ_lf n (stepZ nw L inp true z)
    rw [stepZ_lf] at h1 h2
    simp only [runZ, runL]
    split
    · exact ⟨h1, by rw [h2]⟩
    · exact ⟨rfl, rfl⟩
theorem tearZ_lf (keep : Bool) : ∀ (n : Nat) (z : Lz), (tearZ nw L inp keep n z).1.lf = (tearL L inp keep n z.lf).1 ∧ (tearZ nw L inp keep n z).2 = (tearL L inp keep n z.lf).2
  | 0, z => ⟨rfl, rfl⟩
  | n + 1, z => by
    obtain ⟨h1, h2⟩ := tearZ_lf keep n (stepZ nw L inp true z)
    rw [stepZ_lf] at h1 h2
    simp only [tearZ, tearL]
    split
    · exact ⟨by show wakeL (stepZ nw L inp keep z).lf = _; rw [stepZ_lf], rfl⟩
    · split
      · exact ⟨h1, by rw [h2]⟩
      · exact ⟨rfl, rfl⟩
theorem doZ_lf (kind : Int) (n : Nat) (keep : Bool) (z : Lz) : (doZ nw L inp kind n keep z).1.lf = (doL L inp kind n keep z.lf).1 ∧ (doZ nw L inp kind n keep z).2 = (doL L inp kind n keep z.lf).2 := by
  unfold doZ doL
  split
  · exact ⟨rfl, rfl⟩
  split
  · exact tearZ_lf keep n z
  · exact runZ_lf n z
theorem stepZ_gen (q : Bool) (z : Lz) : z.gen ≤ (stepZ nw L inp q z).gen ∧ (stepZ nw L inp q z).gen ≤ z.gen + 1 := by
  unfold stepZ
  split
  · exact ⟨by show z.gen ≤ z.gen + 1; omega, Int.le_refl _⟩
  · exact ⟨Int.le_refl _, by show z.gen ≤ z.gen + 1; omega⟩
theorem runZ_gen : ∀ (n : Nat) (z : Lz), z.gen ≤ (runZ nw L inp n z).1.gen ∧ (runZ nw L inp n z).1.gen ≤ z.gen + ((runZ nw L inp n z).2 : Nat)
  | 0, z => ⟨Int.le_refl _, by show z.gen ≤ z.gen + ((0 : Nat) : Int); omega⟩
  | n + 1, z => by
    obtain ⟨h1, h2⟩ := runZ_gen n (stepZ nw L inp true z)
    obtain ⟨h3, h4⟩ := stepZ_gen (nw := nw) (L := L) (inp := inp) true z
    simp only [runZ]
    split
    · simp only
      omega
    · exact ⟨Int.le_refl _, by show z.gen ≤ z.gen + ((0 : Nat) : Int); omega⟩
theorem tearZ_gen (keep : Bool) : ∀ (n : Nat) (z : Lz), z.gen ≤ (tearZ nw L inp keep n z).1.gen ∧ (tearZ nw L inp keep n z).1.gen ≤ z.gen + ((tearZ nw L inp keep n z).2 : Nat)
  | 0, z => ⟨Int.le_refl _, by show z.gen ≤ z.gen + ((0 : Nat) : Int); omega⟩
  | n + 1, z => by
    obtain ⟨h1, h2⟩ := tearZ_gen keep n (stepZ nw L inp true z)
    obtain ⟨h3, h4⟩ := stepZ_gen (nw := nw) (L := L) (inp := inp) true z
    obtain ⟨h5, h6⟩ := stepZ_gen (nw := nw) (L := L) (inp := inp) keep z
    simp only [tearZ]
    split
    · exact ⟨h5, h6⟩
    · split
      · simp only
        omega
      · exact ⟨Int.le_refl _, by show z.gen ≤ z.gen + ((0 : Nat) : Int); omega⟩
theorem doZ_gen (kind : Int) (n : Nat) (keep : Bool) (z : Lz) : z.gen ≤ (doZ nw L inp kind n keep z).1.gen ∧ (doZ nw L inp kind n keep z).1.gen ≤ z.gen + ((doZ nw L inp kind n keep z).2 : Nat) := by
  unfold doZ
  split
  · exact ⟨Int.le_refl _, by show z.gen ≤ z.gen + ((0 : Nat) : Int); omega⟩
  split
  · exact tearZ_gen keep n z
  · exact runZ_gen n z
theorem wakeZ_twice (z : Lz) : wakeZ (wakeZ z) = wakeZ z := rfl
end
theorem runL_le (W : List Is) (inp : List Int) : ∀ (n : Nat) (x : Lf), (runL W inp n x).2 ≤ n
  | 0, x => Nat.le_refl _
  | n + 1, x => by
    simp only [runL]
    split
    · have := runL_le W inp n (stepL W inp true x)
      simp only
      omega
    · exact Nat.zero_le _
theorem tearL_le (W : List Is) (inp : List Int) (keep : Bool) : ∀ (n : Nat) (x : Lf), (tearL W inp keep n x).2 ≤ n
  | 0, x => Nat.le_refl _
  | n + 1, x => by
    simp only [tearL]
    split
    · simp only; omega
    split
    · have := tearL_le W inp keep n (stepL W inp true x)
      simp only
      omega
    · exact Nat.zero_le _
theorem doL_le (W : List Is) (inp : List Int) (kind : Int) (n : Nat) (keep : Bool) (x : Lf) : (doL W inp kind n keep x).2 ≤ n := by
  unfold doL
  split
  · exact Nat.zero_le _
  split
  · exact tearL_le W inp keep n x
  · exact runL_le W inp n x

/-! ### Steps, and lives of them -/
/-- A step: kind, N, K, Mask. -/
abbrev Sp := Int × Int × Int × Nat
/-- The fault of a step. -/
def spFault (s : Sp) : Int := if s.1 < 1 ∨ 3 < s.1 then 2 else if s.1 ≠ 2 ∧ (s.2.1 < 0 ∨ 3000 < s.2.1) ∨ s.1 = 3 ∧ s.2.2.1 < 0 then 1 else 0
/-- Does a torn commit stay? -/
def spKeep (s : Sp) : Bool := s.2.2.1 == 0 || (s.2.2.1 == 1 && s.2.2.2 % 2 == 1)
def doSp (W : List Is) (inp : List Int) (s : Sp) (x : Lf) : Lf × Nat := doL W inp s.1 s.2.1.toNat (spKeep s) x
def lf0 (c : Nat) : Lf := ⟨mind0 c, mind0 c, ([], false)⟩
/-- One behind the other; those that have a fault do nothing. -/
def livesL (W : List Is) (inp : List Int) : List Sp → Lf → Lf
  | [], x => x
  | s :: r, x => livesL W inp r (if spFault s = 0 then (doSp W inp s x).1 else x)
/-- The first fault. -/
def badL : List Sp → Int
  | [] => 0
  | s :: r => if spFault s = 0 then badL r else spFault s
/-- So many instructions at most. -/
def nSum (l : List Sp) : Nat := (l.map fun s => if 0 < s.2.1 ∧ s.2.1 ≤ 3000 then s.2.1.toNat else 0).sum
theorem nSum_snoc (l : List Sp) (s : Sp) : nSum (l ++ [s]) = nSum l + (if 0 < s.2.1 ∧ s.2.1 ≤ 3000 then s.2.1.toNat else 0) := by simp [nSum]
theorem nSum_take {l : List Sp} {i : Nat} {s : Sp} (h : l[i]? = some s) : nSum (l.take (i + 1)) = nSum (l.take i) + (if 0 < s.2.1 ∧ s.2.1 ≤ 3000 then s.2.1.toNat else 0) := by
  rw [List.take_add_one, h, Option.toList_some, nSum_snoc]
theorem nSum_le (l : List Sp) : nSum l ≤ l.length * 3000 := by
  induction l with
  | nil => simp [nSum]
  | cons s r ih =>
    simp only [nSum, List.map_cons, List.sum_cons, List.length_cons] at ih ⊢
    split <;> omega
theorem nSum_take_le (l : List Sp) (i : Nat) : nSum (l.take i) ≤ nSum l := by
  have e : nSum l = nSum (l.take i) + nSum (l.drop i) := by
    unfold nSum
    rw [← List.sum_append, ← List.map_append, List.take_append_drop]
  omega
end E
end Go.Proofs.YtmplkogkphmmjafGreat

/- More laws of single operations: cutting a slice or an array, copy, a field of a value. -/
namespace Go.Proofs.YtmplkogkphmmjafGreat
set_option maxRecDepth 20000
set_option maxHeartbeats 4000000
namespace E

section
variable {P : Program} {T : Tbl} {n : Nat} {σ : Env} {o : Oper} {w : World} {v : Value}

/-- s[:h]. -/
theorem val_sliceTo {t : TypeId} {x hi : Operand} {a : Option Addr} {len cap sz : Nat} {k1 : IntKind} {i1 : Int} (h : Nat) (hT : T.check P = true) (ho : o.op = .slice t x none (some hi) none) (hx : ev σ x = some (.slice a len cap))
    (h1 : ev σ hi = some (.int k1 i1)) (ht : find T.sl t = some sz) (e1 : i1 = (h : Int)) (hm : h ≤ cap) (w : World) : Val P n σ o w (.slice a h cap) := by
  intro ac ha
  subst e1
  have hs := Tbl.sl_ok hT ht
  unfold slOk at hs
  split at hs
  · rename_i e hu
    simp [execOp, ho, ha.eval hx, ha.eval h1, Instr.sliceAt, Instr.slice, Instr.sliceBounds, Instr.sliceBound, asIntOf, run_underlying hu, sizeOk_run hs, hm]
    cases a <;> simp [Addr.add]
  · cases hs

/-- x[l:], of an array. -/
theorem val_sliceArrFrom {t : TypeId} {x lo : Operand} {b q len sz : Nat} {k1 : IntKind} {i1 : Int} (l : Nat) (hT : T.check P = true) (ho : o.op = .slice t x (some lo) none none) (hx : ev σ x = some (.pointer (some ⟨b, q, none⟩)))
    (h1 : ev σ lo = some (.int k1 i1)) (ht : find T.ar t = some (len, sz)) (e1 : i1 = (l : Int)) (hm : l < len) (w : World) : Val P n σ o w (.slice (some ⟨b, q + l * sz, none⟩) (len - l) (len - l)) := by
  intro a ha
  subst e1
  have hs := Tbl.ar_ok hT ht
  unfold arOk at hs
  split at hs
  · rename_i l' e hu
    simp only [Bool.and_eq_true, beq_iff_eq] at hs
    obtain ⟨rfl, hs⟩ := hs
    have hle : l ≤ l' := Nat.le_of_lt hm
    have hne : ¬ l' = l := by omega
    simp [execOp, ho, ha.eval hx, ha.eval h1, Instr.sliceAt, Instr.sliceBounds, Instr.sliceBound, asIntOf, Instr.sureAddr, run_underlying hu, sizeOk_run hs, hle, hne, Addr.add_mid]
  · cases hs

def copyOk (P : Program) (t : Nat) : Bool :=
  match P.underlying t with
  | some (.slice e) => sizeOk P e 1
  | _ => false

theorem opTo_copy {t t' : TypeId} {x y : Operand} {b q dl dc b' q' sl sc : Nat} {L : List Value} {e : TypeId} {K : Value → World → Prop} (cs : List Value)
    (ho : o.op = .call { callee := .builtin .copy, args := #[x, y], argTypes := #[t, t'] }) (hx : ev σ x = some (.slice (some ⟨b, q, none⟩) dl dc)) (hy : ev σ y = some (.slice (some ⟨b', q', none⟩) sl sc))
    (hP : copyOk P t = true) (hb : Blk w b L e) (hn : cs.length = Nat.min sl dl) (hsrc : w.rangeAt b' q' cs) (hl : q + cs.length ≤ L.length) (h1 : ∀ u ∈ cs, u.oneCell' = true)
    (hK : ∀ r, K r (w.setRow b (splice L q cs).toArray)) : OpTo P n σ o w K := by
  unfold copyOk at hP
  split at hP
  · rename_i el hu
    refine opTo_run (v := goInt cs.length) (w' := w.setRow b (splice L q cs).toArray) (fun a ha => ?_) (hK _)
    have hr := run_copy_row P w t t' o.type el b q dl dc ⟨b', q', none⟩ sl sc L.toArray e cs hu (sizeOk_info hP) hb hn (fun j u hj => by rw [Addr.add_mid]; exact hsrc j u hj) (by simpa using hl) h1
    have hr' : (Builtin.copy_ #[t, t'] o.type #[.slice (some ⟨b, q, none⟩) dl dc, .slice (some ⟨b', q', none⟩) sl sc]).run P w = .ok (goInt cs.length) (w.setRow b (splice L q cs).toArray) := by
      rw [hr]; simp [splice]
    simp [execOp, ho, resolve, invoke, builtin, ha.eval hx, ha.eval hy, hr']
  · cases hP

def fieldOne (P : Program) (s f off : Nat) : Bool :=
  match P.underlying s with
  | some (.struct fs) => match fs[f]? with
    | some d => d.offset == off && oneOk P d.type
    | none => false
  | _ => false
def fieldAgg (P : Program) (s f off m : Nat) : Bool :=
  match P.underlying s with
  | some (.struct fs) => match fs[f]? with
    | some d => d.offset == off && agOk P d.type m
    | none => false
  | _ => false

theorem oneOk_isAgg {t : Nat} (hs : oneOk P t = true) (w : World) : (isAgg t).run P w = .ok false w := by
  unfold oneOk at hs
  cases hu : P.underlying t with
  | none => simp [hu] at hs
  | some d =>
    unfold isAgg
    rw [Sem.run_bind, run_underlying hu w]
    cases d <;> simp_all
theorem agOk_isAgg {t m : Nat} (hs : agOk P t m = true) (w : World) : (isAgg t).run P w = .ok true w ∧ sizeOk P t m = true := by
  unfold agOk at hs
  cases hu : P.underlying t with
  | none => simp [hu] at hs
  | some d =>
    unfold isAgg
    rw [Sem.run_bind, run_underlying hu w]
    cases d <;> simp_all

theorem val_field1 {s f : Nat} {x : Operand} (off : Nat) (cs : List Value) (ho : o.op = .field s x f) (hx : ev σ x = some (.agg cs.toArray)) (hP : fieldOne P s f off = true) (hv : cs[off]? = some v) (w : World) : Val P n σ o w v := by
  intro a ha
  unfold fieldOne at hP
  split at hP
  · rename_i fs hu
    split at hP
    · rename_i d hd
      simp only [Bool.and_eq_true, beq_iff_eq] at hP
      obtain ⟨rfl, hP⟩ := hP
      simp [execOp, ho, ha.eval hx, Instr.field, run_underlying hu, hd, asAgg, part, oneOk_isAgg hP, hv]
    · cases hP
  · cases hP
theorem val_fieldAgg {s f m : Nat} {x : Operand} (off : Nat) (cs ds : List Value) (ho : o.op = .field s x f) (hx : ev σ x = some (.agg cs.toArray)) (hP : fieldAgg P s f off m = true) (hv : (cs.drop off).take m = ds) (w : World) : Val P n σ o w (.agg ds.toArray) := by
  intro a ha
  unfold fieldAgg at hP
  split at hP
  · rename_i fs hu
    split at hP
    · rename_i d hd
      simp only [Bool.and_eq_true, beq_iff_eq] at hP
      obtain ⟨rfl, hP⟩ := hP
      have h1 := agOk_isAgg hP w
      simp [execOp, ho, ha.eval hx, Instr.field, run_underlying hu, hd, asAgg, part, h1.1, sizeOk_run h1.2, hv]
    · cases hP
  · cases hP
end

def isBool (P : Program) (t : Nat) : Bool :=
  match P.underlying t with
  | some .bool => true
  | _ => false

theorem val_neBool {P : Program} {n : Nat} {σ : Env} {o : Oper} {t t' : Nat} {x y : Operand} (a b r : Bool) (h : isBool P t = true) (ho : o.op = .binOp .neq t x y t') (hx : ev σ x = some (.bool a)) (hy : ev σ y = some (.bool b)) (hr : (!(a == b)) = r) (w : World) : Val P n σ o w (.bool r) := by
  intro ac ha
  subst hr
  unfold isBool at h
  split at h
  · rename_i hu
    have he : (Op.equal t (.bool a) (.bool b)).run P w = .ok (a == b) w := run_equalIn_bool' w 9999 t a b hu
    simp [execOp, ho, ha.eval hx, ha.eval hy, eqGuard, binOp, he]
  · cases h


/-- A pointer that is not nil, held against nil. -/
def isPtr (P : Program) (t : Nat) : Bool :=
  match P.underlying t with
  | some (.pointer _) => true
  | _ => false
theorem val_neNil {P : Program} {n : Nat} {σ : Env} {o : Oper} {t t' : Nat} {x : Operand} {ad : Addr} (h : isPtr P t = true) (ho : o.op = .binOp .neq t x (.const (.pointer none)) t') (hx : ev σ x = some (.pointer (some ad))) (w : World) : Val P n σ o w (.bool true) := by
  intro a ha
  unfold isPtr at h
  split at h
  · rename_i e hu
    have he : ∀ d, (Op.equalIn (d + 1) t (.pointer (some ad)) (.pointer none)).run P w = .ok false w := fun d => by
      simp [Op.equalIn, run_underlying hu]
    have he' : (Op.equal t (.pointer (some ad)) (.pointer none)).run P w = .ok false w := he 9999
    have hc : a.eval (.const (.pointer none)) = .pointer none := rfl
    simp [execOp, ho, ha.eval hx, hc, eqGuard, binOp, he']
  · cases h

/-- Blocks of two types are two. -/
theorem Blk.ne {w : World} {a b : Nat} {L L' : List Value} {e e' : TypeId} (h : Blk w a L e) (h' : Blk w b L' e') (hne : e ≠ e') : a ≠ b := fun hab => by
  subst hab
  unfold Blk at h h'
  rw [h] at h'
  simp at h'
  exact hne h'.2
end E
end Go.Proofs.YtmplkogkphmmjafGreat

/- Laws of single operations on strings, and of structs of a string and a number. -/
namespace Go.Proofs.YtmplkogkphmmjafGreat
set_option maxRecDepth 20000
set_option maxHeartbeats 4000000
namespace E

section
variable {P : Program} {n : Nat} {σ : Env} {o : Oper}

def isStr (P : Program) (t : Nat) : Bool :=
  match P.underlying t with
  | some .string => true
  | _ => false
theorem isStr_spec {t : Nat} (h : isStr P t = true) : P.underlying t = some .string := by
  unfold isStr at h
  split at h
  · rename_i hu; exact hu
  · cases h

/-- s[i]. -/
theorem val_strAt {t : Nat} {x ix : Operand} {kk : IntKind} (s : ByteArray) (j : Nat) (c : UInt8) {i : Int} (h : isStr P t = true) (ho : o.op = .index t x ix) (hx : ev σ x = some (.string s)) (hi : ev σ ix = some (.int kk i))
    (hij : i = (j : Int)) (hc : s[j]? = some c) (w : World) : Val P n σ o w (.int .u8 (c.toNat : Nat)) := by
  intro a ha
  subst hij
  simp [execOp, ho, ha.eval hx, ha.eval hi, Instr.index, asIntOf, run_underlying (isStr_spec h), hc]

/-- len(s). -/
theorem val_strLen {t : Nat} {x : Operand} (s : ByteArray) (h : isStr P t = true) (ho : o.op = .call { callee := .builtin .len, args := #[x], argTypes := #[t] }) (hx : ev σ x = some (.string s)) (w : World) : Val P n σ o w (.int .i64 (s.size : Nat)) := by
  intro a ha
  simp [execOp, ho, resolve, invoke, builtin, Builtin.len_, run_underlying (isStr_spec h), ha.eval hx, goInt]

theorem val_eqStr {t t' : Nat} {x y : Operand} (a b : ByteArray) (r : Bool) (ho : o.op = .binOp .eql t x y t') (hx : ev σ x = some (.string a)) (hy : ev σ y = some (.string b)) (hr : (a.toList == b.toList) = r) (w : World) : Val P n σ o w (.bool r) := by
  intro ac ha
  subst hr
  simp [execOp, ho, ha.eval hx, ha.eval hy, eqGuard, binOp, Op.stringOp]
theorem val_neStr {t t' : Nat} {x y : Operand} (a b : ByteArray) (r : Bool) (ho : o.op = .binOp .neq t x y t') (hx : ev σ x = some (.string a)) (hy : ev σ y = some (.string b)) (hr : (!(a.toList == b.toList)) = r) (w : World) : Val P n σ o w (.bool r) := by
  intro ac ha
  subst hr
  simp [execOp, ho, ha.eval hx, ha.eval hy, eqGuard, binOp, Op.stringOp]

/-- A struct of a string and a number. -/
def isPair (P : Program) (t : Nat) : Bool :=
  match P.underlying t with
  | some (.struct fs) => match fs.toList with
    | [f, g] => f.offset == 0 && g.offset == 1 && (f.name != "_") && (g.name != "_") && isStr P f.type && (match P.underlying g.type with | some (.int _) => true | _ => false) && !(P.stoodInHeld t) && !(P.eqGuardType P.depth t)
    | _ => false
  | _ => false

theorem run_equal_pair {t : Nat} (h : isPair P t = true) (a b : ByteArray) (x y : Int) (w : World) :
    (Op.equalIn 10000 t (.agg #[.string a, .int .i64 x]) (.agg #[.string b, .int .i64 y])).run P w = .ok (a.toList == b.toList && x == y) w ∧ P.eqGuardType P.depth t = false := by
  unfold isPair at h
  split at h
  · rename_i fs hu
    split at h
    · rename_i f g hfs
      simp only [Bool.and_eq_true, beq_iff_eq, bne_iff_ne, Bool.not_eq_true'] at h
      obtain ⟨⟨⟨⟨⟨⟨⟨h1, h2⟩, h3⟩, h4⟩, h5⟩, h6⟩, h7⟩, h8⟩ := h
      refine ⟨?_, h8⟩
      have hf : P.fieldsOf t = fs := by simp [Program.fieldsOf, hu]
      have hs := isStr_spec h5
      split at h6
      · rename_i k hk
        rw [run_equalIn_struct w 9999 t _ _ (by rw [hf]; exact hu) h7, hf, hfs]
        have e1 := run_equalIn_string (P := P) w 9998 f.type a b hs
        have e2 := run_equalIn_int (P := P) w 9998 g.type .i64 k x y hk
        have p1 : (part f.type #[.string a, .int .i64 x] 0).run P w = .ok (.string a) w := by simp [part, isAgg, run_underlying hs]
        have p2 : (part f.type #[.string b, .int .i64 y] 0).run P w = .ok (.string b) w := by simp [part, isAgg, run_underlying hs]
        have p3 : (part g.type #[.string a, .int .i64 x] 1).run P w = .ok (.int .i64 x) w := by simp [part, isAgg, run_underlying hk]
        have p4 : (part g.type #[.string b, .int .i64 y] 1).run P w = .ok (.int .i64 y) w := by simp [part, isAgg, run_underlying hk]
        simp only [Op.eqFields, h1, h2, h3, h4, ne_eq, not_false_eq_true, if_true, Sem.run_bind, p1, p2, Result.andThen_ok, e1]
        generalize (a.toList == b.toList) = p at *
        generalize (x == y) = q at *
        have e2' : (Op.equalIn 9999 g.type (.int .i64 x) (.int .i64 y)).run P w = .ok q w := e2
        cases p <;> cases q <;> simp [p3, p4, e2']
      · cases h6
    · cases h
  · cases h
theorem val_nePair {t t' : Nat} {x y : Operand} (a b : ByteArray) (k l : Int) (r : Bool) (h : isPair P t = true) (ho : o.op = .binOp .neq t x y t') (hx : ev σ x = some (.agg #[.string a, .int .i64 k])) (hy : ev σ y = some (.agg #[.string b, .int .i64 l]))
    (hr : (!(a.toList == b.toList && k == l)) = r) (w : World) : Val P n σ o w (.bool r) := by
  intro ac ha
  subst hr
  obtain ⟨h1, h2⟩ := run_equal_pair h a b k l w
  simp only [execOp, ho, ha.eval hx, ha.eval hy, Sem.run_bind, run_eqGuard_agg w .neq t _ _ _ _ h2, Result.andThen_ok, run_neq_struct, h1]
  simp
theorem val_eqPair {t t' : Nat} {x y : Operand} (a b : ByteArray) (k l : Int) (r : Bool) (h : isPair P t = true) (ho : o.op = .binOp .eql t x y t') (hx : ev σ x = some (.agg #[.string a, .int .i64 k])) (hy : ev σ y = some (.agg #[.string b, .int .i64 l]))
    (hr : (a.toList == b.toList && k == l) = r) (w : World) : Val P n σ o w (.bool r) := by
  intro ac ha
  subst hr
  obtain ⟨h1, h2⟩ := run_equal_pair h a b k l w
  simp only [execOp, ho, ha.eval hx, ha.eval hy, Sem.run_bind, run_eqGuard_agg w .eql t _ _ _ _ h2, Result.andThen_ok, run_eql_struct, h1]
  simp
end
end E
end Go.Proofs.YtmplkogkphmmjafGreat

/- Slices that a call owns: over a row that may be longer than the slice's capacity; append to them; cutting them to their beginning. -/
namespace Go.Proofs.YtmplkogkphmmjafGreat
set_option maxRecDepth 20000
set_option maxHeartbeats 4000000
namespace E

/-- v is a slice of n elements, the cells xs, over a row from its head on, of blocks from B on (or nil). -/
def Own (w : World) (B e size : Nat) (v : Value) (n : Nat) (xs : List Value) : Prop :=
  xs.length = n * size ∧ ((v = .slice none 0 0 ∧ n = 0) ∨
    ∃ g cap cur, v = .slice (some ⟨g, 0, none⟩) n cap ∧ B ≤ g ∧ Blk w g cur e ∧ n ≤ cap ∧ cap * size ≤ cur.length ∧ cur.take (n * size) = xs)

def capOf : Value → Nat
  | .slice _ _ c => c
  | _ => 0

section
variable {w w' : World} {B e size n : Nat} {v : Value} {xs : List Value}

theorem Own.nil (w : World) (B e size : Nat) : Own w B e size (.slice none 0 0) 0 [] := ⟨by simp, .inl ⟨rfl, rfl⟩⟩
theorem Own.lt (h : Own w B e size v n xs) : ∀ k, v.ownBlock = some k → B ≤ k ∧ k < w.heap.size := by
  intro k hk
  rcases h.2 with ⟨rfl, _⟩ | ⟨g, cap, cur, rfl, hb, hg, _⟩
  · simp [Value.ownBlock] at hk
  · simp [Value.ownBlock] at hk
    subst hk
    exact ⟨hb, hg.lt⟩
theorem Own.keep {fp : List Nat} (h : Own w B e size v n xs) (hk : Keep fp w w') (hn : ∀ k, v.ownBlock = some k → k ∉ fp) : Own w' B e size v n xs := by
  refine ⟨h.1, ?_⟩
  rcases h.2 with h0 | ⟨g, cap, cur, rfl, hb, hg, r⟩
  · exact .inl h0
  · exact .inr ⟨g, cap, cur, rfl, hb, hk.blk hg (hn g rfl), r⟩
theorem Own.form (h : Own w B e size v n xs) : ∃ a cap, v = .slice a n cap := by
  rcases h.2 with ⟨h1, h2⟩ | ⟨g, cap, cur, h1, _⟩
  · exact ⟨none, 0, by rw [h1, h2]⟩
  · exact ⟨_, cap, h1⟩
theorem Own.range (h : Own w B e size v n xs) {q : Nat} {cs : List Value} (hc : (xs.drop q).take cs.length = cs) (h0 : 0 < n) : ∃ g cap, v = .slice (some ⟨g, 0, none⟩) n cap ∧ w.rangeAt g q cs := by
  rcases h.2 with ⟨_, h2⟩ | ⟨g, cap, cur, h1, _, hb, _, _, ht⟩
  · omega
  · refine ⟨g, cap, h1, fun j u hu => hb.cell ?_⟩
    rw [← hc, List.getElem?_take] at hu
    split at hu
    · rw [List.getElem?_drop, ← ht, List.getElem?_take] at hu
      split at hu
      · exact hu
      · cases hu
    · cases hu
/-- Its beginning, with no room behind it. -/
theorem Own.cut (h : Own w B e size v n xs) {m : Nat} (hm : m ≤ n) {a : Option Addr} {cap : Nat} (hv : v = .slice a n cap) : Own w B e size (.slice a m m) m (xs.take (m * size)) := by
  refine ⟨?_, ?_⟩
  · rw [List.length_take, h.1, Nat.min_eq_left (Nat.mul_le_mul_right _ hm)]
  · rcases h.2 with ⟨h1, h2⟩ | ⟨g, c, cur, h1, hb, hg, hc, hl, ht⟩
    · rw [h1] at hv
      injection hv with e1 e2 e3
      subst e1
      have : m = 0 := by omega
      subst this
      exact .inl ⟨rfl, rfl⟩
    · rw [h1] at hv
      injection hv with e1 e2 e3
      subst e1
      refine .inr ⟨g, m, cur, rfl, hb, hg, Nat.le_refl _, Nat.le_trans (Nat.mul_le_mul_right _ (Nat.le_trans hm hc)) hl, ?_⟩
      rw [← ht, List.take_take, Nat.min_eq_left (Nat.mul_le_mul_right _ hm)]
theorem Own.cap_le (h : Own w B e size v n xs) : n ≤ capOf v := by
  rcases h.2 with ⟨_, h2⟩ | ⟨g, cap, cur, h1, _, _, hc, _⟩
  · omega
  · rw [h1]; exact hc

theorem keep_grown {w w' : World} {row : Option Nat} (hg : w.grownBy w' row) : Keep row.toList w w' := (Keep.refl _ _).grown hg fun k e => .inl (by simp [e])
end

theorem opTo_app {P : Program} {n : Nat} {σ : Env} {o : Oper} {w : World} {v : Value} {t : TypeId} {s x : Operand} {b q m c ln : Nat} {K : Value → World → Prop} (B e size bytes : Nat) (xs news : List Value)
    (ho : o.op = .call { callee := .builtin .append, args := #[s, x], argTypes := #[t, t] }) (hs : ev σ s = some v) (hx : ev σ x = some (.slice (some ⟨b, q, none⟩) m c))
    (hP : appOk P t e size bytes = true) (hown : Own w B e size v ln xs) (hnews : w.rangeAt b q news) (hl : news.length = m * size) (h1 : ∀ u ∈ news, u.oneCell' = true)
    (hm : 0 < m) (h63 : ln + m ≤ maxLen) (hbytes : (ln + m) * bytes ≤ 140737488355328) (hbase : B ≤ w.heap.size)
    (hK : ∀ g cap w', Own w' B e size (.slice (some ⟨g, 0, none⟩) (ln + m) cap) (ln + m) (xs ++ news) → ((v.ownBlock = some g ∧ ln + m ≤ capOf v ∧ Keep [g] w w') ∨ (g = w.heap.size ∧ Keep [] w w' ∧ w'.heap.size = w.heap.size + 1)) → K (.slice (some ⟨g, 0, none⟩) (ln + m) cap) w') : OpTo P n σ o w K := by
  obtain ⟨i, z, hu, hi, hz, hsize, hby, hzs⟩ := appOk_run hP
  subst hsize
  subst hby
  have hlen : (xs ++ news).length = (ln + m) * i.size := by rw [List.length_append, hown.1, hl, Nat.add_mul]
  have hnews' : ∀ j u, news[j]? = some u → w.cell? ((⟨b, q, none⟩ : Addr).add j) = some u := fun j u hj => by rw [Addr.add_mid]; exact hnews j u hj
  have h63' : ((ln + m : Nat) : Int) ≤ 9223372036854775807 := by simp only [maxLen] at h63; omega
  have key : ∀ v' w', (Builtin.append_ #[t, t] o.type #[v, .slice (some ⟨b, q, none⟩) m c]).run P w = .ok v' w' → K v' w' → OpTo P n σ o w K := fun v' w' hr hk =>
    opTo_run (w' := w') (v := v') (fun a ha => by simp [execOp, ho, resolve, invoke, builtin, ha.eval hs, ha.eval hx, hr]) hk
  have hnew : ∀ (old : Nat) (cur : Array Value), cur = xs.toArray ++ news.toArray ++ Builtin.zeroCells z.cells (grownCap w (ln + m) old e - (ln + m)) →
      Own (w.drew.alloc (.cells cur e)) B e i.size (.slice (some ⟨w.heap.size, 0, none⟩) (ln + m) (grownCap w (ln + m) old e)) (ln + m) (xs ++ news) ∧ Keep [] w (w.drew.alloc (.cells cur e)) := fun old cur hcur => by
    have hge := grownCap_ge w (ln + m) old e
    refine ⟨⟨hlen, .inr ⟨w.heap.size, _, cur.toList, rfl, hbase, ?_, hge, ?_, ?_⟩⟩, ((Keep.refl _ _).drew).alloc _⟩
    · have := Blk.new w.drew cur.toList e
      rwa [Array.toArray_toList] at this
    · rw [hcur]
      simp only [Array.toList_append, List.length_append, Array.length_toList, size_zeroCells, hzs, hown.1, hl, ← Nat.add_mul]
      rw [Nat.add_sub_cancel' hge]
      exact Nat.le_refl _
    · rw [hcur]
      simp only [Array.toList_append]
      rw [← hlen]
      exact List.take_left
  rcases hown.2 with ⟨rfl, rfl⟩ | ⟨g, cap, cur, rfl, hbg, hg, hnc, hcs, htake⟩
  · have hxs : xs = [] := List.eq_nil_of_length_eq_zero (by simpa using hown.1)
    subst hxs
    have hr := run_append_nil (P := P) w t o.type e i z hu hi hz ⟨b, q, none⟩ m c news hl hnews' hm (by omega) (by simp only [Nat.zero_add] at hbytes; omega)
    have hn := hnew 0 (news.toArray ++ Builtin.zeroCells z.cells (grownCap w m 0 e - m)) (by simp)
    simp only [Nat.zero_add] at hn hK
    exact key _ _ hr (hK _ _ _ hn.1 (.inr ⟨rfl, hn.2, World.size_alloc _ _⟩))
  · by_cases hroom : ln + m ≤ cap
    · have hfit : ln * i.size + news.length ≤ cur.toArray.size := by
        rw [hl, ← Nat.add_mul, List.size_toArray]
        exact Nat.le_trans (Nat.mul_le_mul_right _ hroom) hcs
      have hr := run_append_room (P := P) w t o.type e i hu hi g ln cap cur.toArray hg ⟨b, q, none⟩ m c news hl hnews' h1 hroom hfit
      refine key _ _ hr (hK _ _ _ ⟨hlen, .inr ⟨g, cap, _, rfl, hbg, hg.set _, hroom, ?_, ?_⟩⟩ (.inl ⟨rfl, hroom, (Keep.refl _ _).setRow _ _ (.inl (by simp))⟩))
      · simp only [List.size_toArray] at hfit
        simp only [List.length_append, List.length_take, List.length_drop]
        omega
      · rw [← hlen, htake]
        exact List.take_left
    · have holds : ∀ j u, xs[j]? = some u → w.cell? ((⟨g, 0, none⟩ : Addr).add j) = some u := fun j u hj => by
        rw [Addr.add_mid, Nat.zero_add]
        refine hg.cell ?_
        rw [← htake, List.getElem?_take] at hj
        split at hj
        · exact hj
        · cases hj
      have hr := run_append_grow (P := P) w t o.type e i z hu hi hz ⟨g, 0, none⟩ ln cap xs hown.1 holds ⟨b, q, none⟩ m c news hl hnews' (by omega) h63' (growslice_fits (by omega) hbytes)
      have hn := hnew cap _ rfl
      exact key _ _ hr (hK _ _ _ hn.1 (.inr ⟨rfl, hn.2, World.size_alloc _ _⟩))

section
variable {P : Program} {T : Tbl} {n : Nat} {σ : Env} {o : Oper}
/-- s[:h:m]. -/
theorem val_slice3 {t : TypeId} {x hi mx : Operand} {a : Option Addr} {len cap sz : Nat} {k1 k2 : IntKind} {i1 i2 : Int} (h m : Nat) (hT : T.check P = true) (ho : o.op = .slice t x none (some hi) (some mx)) (hx : ev σ x = some (.slice a len cap))
    (h1 : ev σ hi = some (.int k1 i1)) (h2 : ev σ mx = some (.int k2 i2)) (ht : find T.sl t = some sz) (e1 : i1 = (h : Int)) (e2 : i2 = (m : Int)) (hm : m ≤ cap) (hh : h ≤ m) (w : World) : Val P n σ o w (.slice a h m) := by
  intro ac ha
  subst e1
  subst e2
  have hs := Tbl.sl_ok hT ht
  unfold slOk at hs
  split at hs
  · rename_i e hu
    simp [execOp, ho, ha.eval hx, ha.eval h1, ha.eval h2, Instr.sliceAt, Instr.slice, Instr.sliceBounds, Instr.sliceBound, asIntOf, run_underlying hu, sizeOk_run hs, hm, hh]
    cases a <;> simp [Addr.add]
  · cases hs
end
end E
end Go.Proofs.YtmplkogkphmmjafGreat

/- More laws of single operations: a quotient, a pointer that is held against nil, one of a row of bools, a slice that is made. -/
namespace Go.Proofs.YtmplkogkphmmjafGreat
set_option maxRecDepth 20000
set_option maxHeartbeats 4000000
namespace E

section
variable {P : Program} {T : Tbl} {n : Nat} {σ : Env} {o : Oper} {w : World}

theorem val_quo {t t' : TypeId} {x y : Operand} (k : IntKind) (a b r : Int) (ho : o.op = .binOp .quo t x y t') (hx : ev σ x = some (.int k a)) (hy : ev σ y = some (.int k b)) (hb : b ≠ 0)
    (hr : k.wrap (a.tdiv b) = r) (w : World) : Val P n σ o w (.int k r) := by
  intro ac ha
  subst hr
  simp [execOp, ho, ha.eval hx, ha.eval hy, eqGuard, binOp, Op.intDiv, hb]

theorem quo8 (k : Nat) (h : k < 1000000) : IntKind.i64.wrap (((k : Nat) : Int).tdiv 8) = ((k / 8 : Nat) : Int) := by
  have e : ((k : Nat) : Int).tdiv 8 = ((k / 8 : Nat) : Int) := by
    rw [Int.tdiv_eq_ediv_of_nonneg (by omega)]
    omega
  rw [e, wrap_i64 (by omega) (by omega)]

theorem val_eqNil {t t' : Nat} {x : Operand} {ad : Addr} (h : isPtr P t = true) (ho : o.op = .binOp .eql t x (.const (.pointer none)) t') (hx : ev σ x = some (.pointer (some ad))) (w : World) : Val P n σ o w (.bool false) := by
  intro a ha
  unfold isPtr at h
  split at h
  · rename_i e hu
    have he : ∀ d, (Op.equalIn (d + 1) t (.pointer (some ad)) (.pointer none)).run P w = .ok false w := fun d => by
      simp [Op.equalIn, run_underlying hu]
    have he' : (Op.equal t (.pointer (some ad)) (.pointer none)).run P w = .ok false w := he 9999
    have hc : a.eval (.const (.pointer none)) = .pointer none := rfl
    simp [execOp, ho, ha.eval hx, hc, eqGuard, binOp, he']
  · cases h

def arrBool (P : Program) (t len : Nat) : Bool :=
  match P.underlying t with
  | some (.array l e) => l == len && (match P.underlying e with | some .bool => true | _ => false) && sizeOk P e 1
  | _ => false

/-- One out of a row of bools that is a value. -/
theorem val_atB {t len : Nat} {x ix : Operand} {kk : IntKind} (cs : List Value) (v : Value) (j : Nat) {i : Int} (h : arrBool P t len = true) (ho : o.op = .index t x ix) (hx : ev σ x = some (.agg cs.toArray)) (hi : ev σ ix = some (.int kk i))
    (hij : i = (j : Int)) (hj : j < len) (hc : cs[j]? = some v) (w : World) : Val P n σ o w v := by
  intro a ha
  subst hij
  unfold arrBool at h
  split at h
  · rename_i l e hu
    simp only [Bool.and_eq_true, beq_iff_eq] at h
    obtain ⟨⟨rfl, h1⟩, h2⟩ := h
    split at h1
    · rename_i hk
      have hg : cs.toArray[j]? = some v := by simpa using hc
      simp [execOp, ho, ha.eval hx, ha.eval hi, Instr.index, asIntOf, run_underlying hu, hj, sizeOk_run h2, part, isAgg, run_underlying hk]
      simp [hc]
    · cases h1
  · cases h

theorem opTo_make {t e : TypeId} {l c : Operand} {k1 k2 : IntKind} {K : Value → World → Prop} (len : Nat) (cells : List Value) (i : TypeInfo) (z : Value) (ho : o.op = .makeSlice t l c) (hl : ev σ l = some (.int k1 (len : Nat))) (hc : ev σ c = some (.int k2 (len : Nat)))
    (ht : P.underlying t = some (.slice e)) (hi : P.info? e = some i) (hz : i.zero = some z) (hb : (i.bytes : Int) * ((len : Nat) : Int) ≤ 281474976710656) (h63 : ((len : Nat) : Int) ≤ 9223372036854775807)
    (hcells : madeCells z.cells (len * i.size) = cells.toArray) (hK : K (.slice (some ⟨w.heap.size, 0, none⟩) len len) (w.alloc (.cells cells.toArray e))) : OpTo P n σ o w K := by
  refine opTo_run (w' := w.alloc (.cells cells.toArray e)) (v := .slice (some ⟨w.heap.size, 0, none⟩) len len) (fun a ha => ?_) hK
  have hr := run_make (P := P) w t e i z ht hi hz k1 k2 ((len : Nat) : Int) ((len : Nat) : Int) (by omega) (Int.le_refl _) hb h63
  simp only [Int.toNat_natCast] at hr
  rw [hcells] at hr
  simp [execOp, ho, ha.eval hl, ha.eval hc, hr]
end
end E
end Go.Proofs.YtmplkogkphmmjafGreat

/- Short laws for the steps that come most: a comparison that is so, or is not; a sum within bounds. -/
namespace Go.Proofs.YtmplkogkphmmjafGreat
set_option maxRecDepth 20000
set_option maxHeartbeats 4000000
namespace E

def cmpP (op : BinOp) (a b : Int) : Prop :=
  match op with
  | .eql => a = b
  | .neq => a ≠ b
  | .lss => a < b
  | .leq => a ≤ b
  | .gtr => a > b
  | .geq => a ≥ b
  | _ => False
def cmpOk (op : BinOp) : Bool :=
  match op with
  | .eql | .neq | .lss | .leq | .gtr | .geq => true
  | _ => false
theorem intOp_yes {op : BinOp} {k : IntKind} {a b : Int} (h : cmpP op a b) : intOp op k a b = some (.bool true) := by
  cases op <;> simp_all [cmpP, intOp]
theorem intOp_no {op : BinOp} {k : IntKind} {a b : Int} (hk : cmpOk op = true) (h : ¬ cmpP op a b) : intOp op k a b = some (.bool false) := by
  cases op <;> simp_all [cmpP, cmpOk, intOp]
def ariP (op : BinOp) (a b v : Int) : Prop :=
  match op with
  | .add => v = a + b ∧ -9223372036854775808 ≤ a + b ∧ a + b < 9223372036854775808
  | .sub => v = a - b ∧ -9223372036854775808 ≤ a - b ∧ a - b < 9223372036854775808
  | _ => False
theorem intOp_num {op : BinOp} {a b v : Int} (h : ariP op a b v) : intOp op .i64 a b = some (.int .i64 v) := by
  cases op <;> simp only [ariP] at h
  · obtain ⟨rfl, h1, h2⟩ := h
    simp only [intOp, wrap_i64 h1 h2]
  · obtain ⟨rfl, h1, h2⟩ := h
    simp only [intOp, wrap_i64 h1 h2]

section
variable {P : Program} {f n : Nat} {ops : Array Oper} {k : List Item} {R : Post} {σ : Env} {w : World} {o : Oper} {l : List Oper} {op : BinOp} {t t' : TypeId} {x y : Operand} {kk : IntKind} {a b : Int}

theorem pl_yes (hg : guardOf ops σ o.guard = some true) (ho : o.op = .binOp op t x y t') (hx : ev σ x = some (.int kk a)) (hy : ev σ y = some (.int kk b)) (hd : dstOk n o.dst = true) (hc : cmpP op a b)
    (h : Pl P f n ops k R l (put σ o.dst (.bool true)) w) : Pl P f n ops k R (o :: l) σ w := pl_val _ hg hd (val_int kk a b _ ho hx hy (intOp_yes hc) w) h
theorem pl_no (hg : guardOf ops σ o.guard = some true) (ho : o.op = .binOp op t x y t') (hx : ev σ x = some (.int kk a)) (hy : ev σ y = some (.int kk b)) (hd : dstOk n o.dst = true) (hk : cmpOk op = true) (hc : ¬ cmpP op a b)
    (h : Pl P f n ops k R l (put σ o.dst (.bool false)) w) : Pl P f n ops k R (o :: l) σ w := pl_val _ hg hd (val_int kk a b _ ho hx hy (intOp_no hk hc) w) h
theorem pl_num (v : Int) (hg : guardOf ops σ o.guard = some true) (ho : o.op = .binOp op t x y t') (hx : ev σ x = some (.int .i64 a)) (hy : ev σ y = some (.int .i64 b)) (hd : dstOk n o.dst = true) (hc : ariP op a b v)
    (h : Pl P f n ops k R l (put σ o.dst (.int .i64 v)) w) : Pl P f n ops k R (o :: l) σ w := pl_val _ hg hd (val_int .i64 a b _ ho hx hy (intOp_num hc) w) h

variable {S : World → Prop} {T : List Nat} {fuel m : Nat}
theorem dr_yes (i : Nat) (hi : ops[i]? = some o) (hk : takeOk ops m i = true) (hg : guardOf ops σ o.guard = some true) (ho : o.op = .binOp op t x y t') (hx : ev σ x = some (.int kk a)) (hy : ev σ y = some (.int kk b)) (hd : dstOk n o.dst = true) (hc : cmpP op a b)
    (h : Dr P f n ops k R S T fuel (m ||| 2 ^ i) (put σ o.dst (.bool true)) w) : Dr P f n ops k R S T (fuel + 1) m σ w := dr_any i _ hi hk hg hd (fun w => val_int kk a b _ ho hx hy (intOp_yes hc) w) h
theorem dr_no (i : Nat) (hi : ops[i]? = some o) (hk : takeOk ops m i = true) (hg : guardOf ops σ o.guard = some true) (ho : o.op = .binOp op t x y t') (hx : ev σ x = some (.int kk a)) (hy : ev σ y = some (.int kk b)) (hd : dstOk n o.dst = true) (hok : cmpOk op = true) (hc : ¬ cmpP op a b)
    (h : Dr P f n ops k R S T fuel (m ||| 2 ^ i) (put σ o.dst (.bool false)) w) : Dr P f n ops k R S T (fuel + 1) m σ w := dr_any i _ hi hk hg hd (fun w => val_int kk a b _ ho hx hy (intOp_no hok hc) w) h
theorem dr_num (i : Nat) (v : Int) (hi : ops[i]? = some o) (hk : takeOk ops m i = true) (hg : guardOf ops σ o.guard = some true) (ho : o.op = .binOp op t x y t') (hx : ev σ x = some (.int .i64 a)) (hy : ev σ y = some (.int .i64 b)) (hd : dstOk n o.dst = true) (hc : ariP op a b v)
    (h : Dr P f n ops k R S T fuel (m ||| 2 ^ i) (put σ o.dst (.int .i64 v)) w) : Dr P f n ops k R S T (fuel + 1) m σ w := dr_any i _ hi hk hg hd (fun w => val_int .i64 a b _ ho hx hy (intOp_num hc) w) h
theorem tg_yes {i : Nat} (hi : ops[i]? = some o) (hk : takeOk ops m i = true) (hg : guardOf ops σ o.guard = some true) (ho : o.op = .binOp op t x y t') (hx : ev σ x = some (.int kk a)) (hy : ev σ y = some (.int kk b)) (hd : dstOk n o.dst = true) (hc : cmpP op a b) :
    Tg i (Dr P f n ops k R S T fuel (m ||| 2 ^ i) (put σ o.dst (.bool true)) w → Dr P f n ops k R S T (fuel + 1) m σ w) := fun h => dr_yes i hi hk hg ho hx hy hd hc h
theorem tg_no {i : Nat} (hi : ops[i]? = some o) (hk : takeOk ops m i = true) (hg : guardOf ops σ o.guard = some true) (ho : o.op = .binOp op t x y t') (hx : ev σ x = some (.int kk a)) (hy : ev σ y = some (.int kk b)) (hd : dstOk n o.dst = true) (hok : cmpOk op = true) (hc : ¬ cmpP op a b) :
    Tg i (Dr P f n ops k R S T fuel (m ||| 2 ^ i) (put σ o.dst (.bool false)) w → Dr P f n ops k R S T (fuel + 1) m σ w) := fun h => dr_no i hi hk hg ho hx hy hd hok hc h
end

section
variable {P : Program} {n : Nat} {σ : Env} {o : Oper} {w : World} {v : Value} {K : Value → World → Prop}
theorem opTo_boxN {t : TypeId} {x : Operand} (cs : List Value) (ho : o.op = .box t x) (hx : ev σ x = some v) (hc : v.cells = cs.toArray)
    (hK : ∀ w1 b, b = w.heap.size → w1.heap.size = b + 1 → Keep [] w w1 → Blk w1 b cs t → K (.pointer (some ⟨b, 0, none⟩)) w1) : OpTo P n σ o w K :=
  opTo_box cs ho hx hc (hK _ _ rfl (World.size_alloc _ _) ((Keep.refl _ _).alloc _) (Blk.new _ _ _))
theorem opTo_allocN {t : TypeId} (cs : List Value) (ho : o.op = .alloc t) (hz : ((P.info? t).bind (·.zero)).map (·.cells) = some cs.toArray)
    (hK : ∀ w1 b, b = w.heap.size → w1.heap.size = b + 1 → Keep [] w w1 → Blk w1 b cs t → K (.pointer (some ⟨b, 0, none⟩)) w1) : OpTo P n σ o w K :=
  opTo_alloc cs ho hz (hK _ _ rfl (World.size_alloc _ _) ((Keep.refl _ _).alloc _) (Blk.new _ _ _))
theorem opTo_sliceN {t len : Nat} {ps : Array (Nat × Operand)} {vs : List (Nat × Value)} (e : TypeId) (cells : List Value) (ho : o.op = .buildSlice t len ps) (hv : evParts σ ps.toList = some vs)
    (hb : sliceCells P t len vs = some (e, cells.toArray)) (hK : ∀ w1 b, b = w.heap.size → w1.heap.size = b + 1 → Keep [] w w1 → Blk w1 b cells e → K (.slice (some ⟨b, 0, none⟩) len len) w1) : OpTo P n σ o w K :=
  opTo_buildSlice e cells ho hv hb (hK _ _ rfl (World.size_alloc _ _) ((Keep.refl _ _).alloc _) (Blk.new _ _ _))
theorem opTo_storeN {t : TypeId} {x y : Operand} {b i : Nat} {L : List Value} {e : TypeId} (cs : List Value) (ho : o.op = .store t x y) (hx : ev σ x = some (.pointer (some ⟨b, i, none⟩))) (hy : ev σ y = some v) (hc : v.cells = cs.toArray)
    (hz : sizeOk P t cs.length = true) (hb : Blk w b L e) (hl : i + cs.length ≤ L.length) (h1 : ∀ u ∈ cs, u.oneCell' = true)
    (hK : ∀ w1, w1.heap.size = w.heap.size → Keep [b] w w1 → Blk w1 b (splice L i cs) e → K undef w1) : OpTo P n σ o w K :=
  opTo_store cs ho hx hy hc hz hb hl h1 (hK _ (setRow_size _ _ _) ((Keep.refl _ _).setRow _ _ (.inl (by simp))) (hb.set _))
end
theorem Keep.trB {fp : List Nat} {w w' w'' : World} {b : Nat} (h : Keep fp w w') (h' : Keep [b] w' w'') (hb : w.heap.size ≤ b) : Keep fp w w'' :=
  h.trans h' fun k hk => .inr (by simp at hk; omega)
theorem blk_loadVar {P : Program} {T : Tbl} {w : World} {c : Nat} {L : List Value} {e t : TypeId} (hT : T.check P = true) (h : Blk w c L e) (ht : find T.ag t = some L.length) : (loadVar t ⟨c, 0, none⟩).run P w = .ok (.agg L.toArray) w :=
  loadVar_agg hT ht (h.range (by simp))
theorem splice_whole {L cs : List Value} (h : cs.length = L.length) : splice L 0 cs = cs := by
  simp [splice, h]

/-- What F allows is there. -/
def In (F : Nat → Prop) (w : World) : Prop := ∀ k, F k → k < w.heap.size
section
variable {F : Nat → Prop} {w w' : World} {fp : List Nat}
theorem In.keep (h : In F w) (hk : Keep fp w w') : In F w' := fun k hF => Nat.lt_of_lt_of_le (h k hF) hk.size
theorem In.lt (w : World) : In (fun b => b < w.heap.size) w := fun _ h => h
end
theorem range_keep {w w' : World} {b q : Nat} {cs : List Value} {fp : List Nat} (h : w.rangeAt b q cs) (hk : Keep fp w w') (hb : b < w.heap.size) (hn : b ∉ fp) : w'.rangeAt b q cs := fun j v hv => by
  rw [World.cell?_of_block (w := w) (hk.block b hb hn)]
  exact h j v hv

end E
end Go.Proofs.YtmplkogkphmmjafGreat

/- Reading an argument: rows of integers, and lists chosen index by index. -/
namespace Go.Proofs.YtmplkogkphmmjafGreat
set_option maxRecDepth 20000
set_option maxHeartbeats 4000000
namespace E

section
variable {H : Type} {enc : TypeId × Value → H} {P : Program} {w : World} {base : Nat} {spare : Nat → Bool} {held : Bool} {fuel : Nat} {t : TypeId} {cs : List Value} {x : DataW H × List MemPlace}

theorem trod_int1 {k : IntKind} (ht : P.underlying t = some (.int k)) (h : DataW.trod enc P w base spare held fuel t cs = some x) : ∃ n, cs = [.int k n] ∧ (Lit.int k n).wf = true := by
  obtain ⟨n, h1, _, h3⟩ := DataW.trod_int ht h
  exact ⟨n, h1, h3⟩

/-- Numbers, of a family of facts. -/
theorem choose_list {α : Type} {p : Nat → α → Prop} : ∀ n, (∀ i, i < n → ∃ a, p i a) → ∃ l : List α, l.length = n ∧ ∀ i a, l[i]? = some a → p i a
  | 0, _ => ⟨[], rfl, fun i a h => by simp at h⟩
  | n + 1, h => by
    obtain ⟨l, hl, hp⟩ := choose_list n fun i hi => h i (Nat.lt_succ_of_lt hi)
    obtain ⟨a, ha⟩ := h n (Nat.lt_succ_self n)
    refine ⟨l ++ [a], by simp [hl], fun i b hb => ?_⟩
    rcases Nat.lt_or_ge i l.length with hlt | hge
    · rw [List.getElem?_append_left hlt] at hb
      exact hp i b hb
    · rw [List.getElem?_append_right hge] at hb
      have : i - l.length = 0 := by
        rcases Nat.eq_zero_or_pos (i - l.length) with h0 | h0
        · exact h0
        · rw [List.getElem?_eq_none (by simp; omega)] at hb; cases hb
      rw [this] at hb
      simp at hb
      subst hb
      have hi : i = n := by omega
      rw [hi]; exact ha

/-- An array of integers. -/
theorem trod_ints {n e : Nat} {k : IntKind} (ht : P.underlying t = some (.array n e)) (he : P.underlying e = some (.int k)) (hc : P.cellsOf e = 1) (hn : P.cellsOf t = n) (h : DataW.trod enc P w base spare held fuel t cs = some x) :
    ∃ ns : List Int, cs = ns.map (fun z => Value.int k z) ∧ ns.length = n := by
  obtain ⟨xs, m, _, _, hl, hlen, hx⟩ := DataW.trod_array ht h
  have hall : ∀ i, i < n → ∃ z : Int, cs[i]? = some (.int k z) := fun i hi => by
    have h1 := hx i hi
    rw [hc, Nat.mul_one, List.getElem?_eq_getElem (by omega)] at h1
    obtain ⟨z, hz, _⟩ := trod_int1 he h1
    refine ⟨z, ?_⟩
    have : ((cs.drop i).take 1)[0]? = some (.int k z) := by rw [hz]; rfl
    simpa using this
  obtain ⟨ns, hns, hp⟩ := choose_list n hall
  refine ⟨ns, ?_, hns⟩
  apply List.ext_getElem?
  intro i
  rcases Nat.lt_or_ge i n with hi | hi
  · have h1 : ns[i]? = some ns[i] := List.getElem?_eq_getElem (by omega)
    rw [hp i _ h1]
    simp [h1]
  · rw [List.getElem?_eq_none (by omega), List.getElem?_eq_none (by simp; omega)]

theorem cells?_get {a : Addr} {n : Nat} (h : w.cells? base a n = some cs) : cs.length = n ∧ ∀ j v, cs[j]? = some v → w.cell? (a.add j) = some v := by
  unfold World.cells? at h
  split at h
  · have hl := mapM_some_length h
    simp only [List.length_range] at hl
    refine ⟨hl, fun j v hv => ?_⟩
    have hj : j < n := by
      have := (List.getElem?_eq_some_iff.1 hv).1
      omega
    have := mapM_some_get h j j (by simp [hj])
    rw [this]; exact hv
  · cases h

theorem flat_get {α : Type} {f : α → List Value} {k : Nat} (hk : 0 < k) : ∀ {L : List α} {j : Nat} {v : Value}, (∀ p ∈ L, (f p).length = k) → (L.flatMap f)[j]? = some v → ∃ p, L[j / k]? = some p ∧ (f p)[j % k]? = some v
  | [], _, _, _, h => by simp at h
  | a :: r, j, v, hl, h => by
    have ha := hl a (by simp)
    rw [List.flatMap_cons] at h
    rcases Nat.lt_or_ge j k with hj | hj
    · rw [List.getElem?_append_left (by omega)] at h
      exact ⟨a, by rw [Nat.div_eq_of_lt hj]; rfl, by rw [Nat.mod_eq_of_lt hj]; exact h⟩
    · rw [List.getElem?_append_right (by omega), ha] at h
      obtain ⟨p, h1, h2⟩ := flat_get hk (fun p hp => hl p (List.mem_cons_of_mem _ hp)) h
      refine ⟨p, ?_, ?_⟩
      · have : j / k = (j - k) / k + 1 := by
          rw [← Nat.add_div_right _ hk, Nat.sub_add_cancel hj]
        rw [this]; exact h1
      · rw [Nat.mod_eq_sub_mod hj]; exact h2
end
end E
end Go.Proofs.YtmplkogkphmmjafGreat

/- Reading an argument: a slice whose elements are known. -/
namespace Go.Proofs.YtmplkogkphmmjafGreat
set_option maxRecDepth 20000
set_option maxHeartbeats 4000000
namespace E

section
variable {H : Type} {enc : TypeId × Value → H} {P : Program} {w : World} {held : Bool} {fuel : Nat} {t e : TypeId} {cs : List Value} {x : DataW H × List MemPlace} {α : Type}

theorem open_list (f : α → List Value) (Q : α → Prop) (k : Nat) (hk : 0 < k) (ht : P.underlying t = some (.slice e)) (hc : P.cellsOf e = k) (hf : ∀ s, Q s → (f s).length = k)
    (hel : ∀ n cs x, DataW.trod enc P w 0 (fun _ => true) held n e cs = some x → ∃ s, cs = f s ∧ Q s) (h : DataW.trod enc P w 0 (fun _ => true) held fuel t cs = some x) :
    ∃ (a : Option Addr) (cap : Nat) (L : List α), cs = [.slice a L.length cap] ∧ (L ≠ [] → ∃ b q, a = some ⟨b, q, none⟩ ∧ b < w.heap.size ∧ w.rangeAt b q (L.flatMap f)) ∧ ∀ s ∈ L, Q s := by
  rcases Go.Deep.open_slice ht h with ⟨hcs, _⟩ | ⟨a, len, cap, m, n, D, Pl, hcs, _, hl, _, hm, _, hall⟩
  · exact ⟨none, 0, [], hcs, fun h => absurd rfl h, by simp⟩
  · simp only [if_true] at hm
    rw [hc] at hall
    have hel' : ∀ i, i < len → ∃ s : α, Q s ∧ ∀ j u, (f s)[j]? = some u → w.cell? (a.add (i * k + j)) = some u := fun i hi => by
      obtain ⟨cs', h1, h2⟩ := hall i (by omega)
      obtain ⟨s, rfl, hq⟩ := hel _ _ _ h2
      refine ⟨s, hq, fun j u hu => ?_⟩
      have := (cells?_get h1).2 j u hu
      rwa [Go.Deep.add_add] at this
    obtain ⟨L, hL, hp⟩ := choose_list len hel'
    have hQ : ∀ s ∈ L, Q s := fun s hs => by
      obtain ⟨i, hi⟩ := List.getElem?_of_mem hs
      exact (hp i s hi).1
    refine ⟨some a, cap, L, by rw [hcs, hL], fun hne => ?_, hQ⟩
    have hcell : ∀ j u, (L.flatMap f)[j]? = some u → w.cell? (a.add j) = some u := fun j u hu => by
      obtain ⟨s, h1, h2⟩ := flat_get hk (fun p hp => hf p (hQ p hp)) hu
      have := (hp _ s h1).2 _ u h2
      rwa [Nat.mul_comm, Nat.div_add_mod] at this
    obtain ⟨u0, hu0⟩ : ∃ u, (L.flatMap f)[0]? = some u := by
      cases L with
      | nil => exact absurd rfl hne
      | cons s r =>
        have hs := hf s (hQ s (by simp))
        refine ⟨(f s)[0]'(by omega), ?_⟩
        rw [List.flatMap_cons, List.getElem?_append_left (by omega), List.getElem?_eq_getElem (by omega)]
    have hc0 := hcell 0 u0 hu0
    have hsp : a.spot = none := by
      have := World.cell?_spot hc0
      simpa [Addr.add] using this
    obtain ⟨b, q, sp⟩ := a
    simp only at hsp
    subst hsp
    refine ⟨b, q, rfl, ?_, fun j u hu => by have := hcell j u hu; rwa [Addr.add_mid] at this⟩
    have := World.block_lt_of_cell? w _ hc0
    simpa [Addr.add] using this
end
end E
end Go.Proofs.YtmplkogkphmmjafGreat
