/- Several texts in one: EvO, EvQ, LiM, IdM, IdK, IdJ, RfB. -/
import Derived.Test.YtmdjgejahnmfmaeJ07
import Derived.Test.YtmdjgejahnmfmaeJ05
/- Plain mathematics of what a program says, third part: a whole program; more instructions, more input, and no commits. -/
namespace Go.Proofs.Ytmdjgejahnmfmae
set_option maxRecDepth 20000
set_option maxHeartbeats 4000000
namespace E

/-- What a run comes to: its code, what it printed, the cells, how many instructions. -/
def resX : Ex Es → Nat × List Int × List Int × Nat
  | .ok a => (0, a.out, a.cells, a.n)
  | .error e => (e.1, e.2.out, e.2.cells, e.2.n)
theorem simP {vs : List VarT} {body : List ST} (h : progFault vs body = 0) (inp : List Int) (fuel c : Nat) :
    Sims (insP vs body) inp fuel (mind0 c) (es0 c) (evP vs inp fuel body (es0 c)) id (fun a m => m.state = 1 ∧ m.cells = a.cells) := by
  obtain ⟨_, _, k, hk⟩ := progFault_ok h
  have hW : Seg (insP vs body) 0 (insSs vs body 0 ++ [haltI]) := fun j x hx => by rw [Nat.zero_add]; exact hx
  unfold evP
  refine Sims.bnd (simSs body hk 0 (es0 c) hW.left (Nat.zero_le _)) ?_
  rintro s1 m _ rfl _ hn1
  obtain ⟨hx, _⟩ := hW.right.head
  refine (Sims.tick1 hx rfl rfl hn1 rfl).mono ?_
  rintro s2 m ⟨rfl, rfl⟩
  exact ⟨rfl, rfl⟩
/-- The document's run: it goes on while it does, fuel times at most; what it is then. -/
theorem runP {vs : List VarT} {body : List ST} (h : progFault vs body = 0) (inp : List Int) (fuel c : Nat) :
    ∃ n m out, n ≤ fuel ∧ goB (insP vs body) inp n (mind0 c, ([], false)) (m, (out, false)) ∧ (n = fuel ∨ m.state ≠ 0) ∧
      resX (evP vs inp fuel body (es0 c)) = (if m.state = 0 then 13 else if m.state = 1 then 0 else m.state - 2, out, m.cells, n) := by
  have hs := simP h inp fuel c
  cases hX : evP vs inp fuel body (es0 c) with
  | ok a =>
    rw [hX] at hs
    obtain ⟨_, h2, m, h3, h4, h5⟩ := hs
    refine ⟨a.n, m, a.out, h2, h3, .inr (by omega), ?_⟩
    simp [resX, h4, h5]
  | error e =>
    rw [hX] at hs
    obtain ⟨_, h2, m, h3, h4, h5⟩ := hs
    refine ⟨e.2.n, m, e.2.out, h2, h3, ?_, ?_⟩
    · rcases h5 with ⟨_, h6, _⟩ | ⟨_, _, h6⟩
      · exact .inl h6
      · exact .inr (by omega)
    · rcases h5 with ⟨h5, _, h6⟩ | ⟨h5, h7, h6⟩
      · simp [resX, h4, h5, h6]
      · have e1 : ¬ m.state = 0 := by omega
        have e2 : ¬ m.state = 1 := by omega
        rw [if_neg e1, if_neg e2, h6, h4]
        rfl

/-! ### More instructions -/
def stX {α : Type} (st : α → Es) : Ex α → Es
  | .ok a => st a
  | .error e => e.2
/-- It has gone on from s. -/
def UpE (s t : Es) : Prop := s.n ≤ t.n ∧ s.out <+: t.out
theorem UpE.refl (s : Es) : UpE s s := ⟨Nat.le_refl _, List.prefix_refl _⟩
theorem UpE.trans {a b c : Es} (h : UpE a b) (h2 : UpE b c) : UpE a c := ⟨Nat.le_trans h.1 h2.1, h.2.trans h2.2⟩
theorem up_bnd {α β : Type} {st : α → Es} {st2 : β → Es} {X : Ex α} {f : α → Ex β} {s : Es} (h : UpE s (stX st X)) (h2 : ∀ a, UpE (st a) (stX st2 (f a))) : UpE s (stX st2 (bndX X f)) := by
  cases X with
  | ok a => exact h.trans (h2 a)
  | error e => exact h
theorem up_tick (fuel : Nat) (s : Es) : UpE s (stX id (tick fuel s)) := by
  unfold tick
  split
  · exact ⟨Nat.le_succ _, List.prefix_refl _⟩
  · exact UpE.refl s
section
variable (vs : List VarT) (inp : List Int) (fuel : Nat)
theorem up_sayE (op v n : Int) (xs : List Int) (s : Es) : UpE s (stX (fun a => a.2) (sayE vs op v n xs s)) := by
  unfold sayE
  repeat' split
  all_goals exact UpE.refl s
theorem up_sayS (op v x y : Int) (s : Es) : UpE s (stX id (sayS vs inp op v x y s)) := by
  unfold sayS
  repeat' split
  all_goals first
    | exact UpE.refl s
    | exact ⟨Nat.le_refl _, List.prefix_refl _⟩
    | exact ⟨Nat.le_refl _, List.prefix_append _ _⟩
mutual
theorem up_E : ∀ (t : ET) (s : Es), UpE s (stX (fun a => a.2) (evE vs fuel t s))
  | .mk op v n l, s => by
    simp only [evE]
    exact up_bnd (up_Es l s) fun a => up_bnd (st := id) (up_tick fuel a.2) fun s2 => up_sayE vs op v n a.1 s2
theorem up_Es : ∀ (l : List ET) (s : Es), UpE s (stX (fun a => a.2) (evEs vs fuel l s))
  | [], s => by simp only [evEs]; exact UpE.refl s
  | t :: r, s => by
    simp only [evEs]
    exact up_bnd (up_E t s) fun a => up_bnd (up_Es r a.2) fun c => UpE.refl _
end
theorem up_loop {ce : Es → Ex (Int × Es)} {cb : Es → Ex Es} (h1 : ∀ s, UpE s (stX (fun a => a.2) (ce s))) (h2 : ∀ s, UpE s (stX id (cb s))) : ∀ (g : Nat) (s : Es), UpE s (stX id (loopX fuel ce cb g s))
  | 0, s => UpE.refl s
  | g + 1, s => by
    simp only [loopX]
    refine up_bnd (h1 s) fun a => up_bnd (st := id) (up_tick fuel a.2) fun s2 => ?_
    split
    · exact UpE.refl _
    · exact up_bnd (h2 _) fun s3 => up_bnd (st := id) (up_tick fuel s3) fun s4 => up_loop h1 h2 g s4
theorem up_ite {b : Bool} {c : Es → Ex (Int × Es)} (h : ∀ s, UpE s (stX (fun a => a.2) (c s))) (s : Es) : UpE s (stX (fun a => a.2) (if b then c s else .ok (0, s))) := by
  cases b
  · exact UpE.refl s
  · exact h s
mutual
theorem up_S : ∀ (t : ST) (s : Es), UpE s (stX id (evS vs inp fuel t s))
  | .mk op v e f b o, s => by
    have hb := fun s => up_Ss b s
    have ho := fun s => up_Ss o s
    simp only [evS]
    split
    · exact up_loop fuel (up_E vs fuel e) hb _ s
    split
    · refine up_bnd (up_E vs fuel e s) fun a => up_bnd (st := id) (up_tick fuel a.2) fun s2 => ?_
      split
      · exact ho s2
      · exact up_bnd (hb s2) fun s3 => up_tick fuel s3
    · exact up_bnd (up_ite (up_E vs fuel e) s) fun a => up_bnd (up_ite (up_E vs fuel f) a.2) fun c => up_bnd (st := id) (up_tick fuel c.2) fun s2 => up_sayS vs inp op v a.1 c.1 s2
theorem up_Ss : ∀ (l : List ST) (s : Es), UpE s (stX id (evSs vs inp fuel l s))
  | [], s => by simp only [evSs]; exact UpE.refl s
  | t :: r, s => by
    simp only [evSs]
    exact up_bnd (up_S t s) fun s1 => up_Ss r s1
end
theorem up_P (body : List ST) (s : Es) : UpE s (stX id (evP vs inp fuel body s)) := up_bnd (up_Ss vs inp fuel body s) fun s1 => up_tick fuel s1
end

/-- Y is X with more instructions. -/
def MoreF {α : Type} (st : α → Es) (X Y : Ex α) : Prop := match X with
  | .ok a => Y = .ok a
  | .error e => (e.1 = 13 ∧ UpE e.2 (stX st Y)) ∨ (e.1 ≠ 13 ∧ Y = .error e)
theorem MoreF.bnd {α β : Type} {st : α → Es} {st2 : β → Es} {X Y : Ex α} {f g : α → Ex β} (h : MoreF st X Y) (h2 : ∀ a, MoreF st2 (f a) (g a)) (h3 : ∀ a, UpE (st a) (stX st2 (g a))) : MoreF st2 (bndX X f) (bndX Y g) := by
  cases X with
  | ok a =>
    rw [show Y = .ok a from h]
    exact h2 a
  | error e =>
    rcases h with ⟨h, hu⟩ | ⟨h, rfl⟩
    · exact .inl ⟨h, up_bnd hu h3⟩
    · exact .inr ⟨h, rfl⟩
theorem MoreF.refl {α : Type} {st : α → Es} (X : Ex α) : MoreF st X X := by
  cases X with
  | ok a => exact rfl
  | error e =>
    by_cases h : e.1 = 13
    · exact .inl ⟨h, UpE.refl _⟩
    · exact .inr ⟨h, rfl⟩
section
variable (vs : List VarT) (inp : List Int) {fuel more : Nat}
theorem more_tick (hm : fuel ≤ more) (s : Es) : MoreF id (tick fuel s) (tick more s) := by
  have hu := up_tick more s
  unfold tick at hu ⊢
  by_cases h : s.n < fuel
  · rw [if_pos h, if_pos (by omega)]
    exact rfl
  · rw [if_neg h]
    exact .inl ⟨rfl, hu⟩
mutual
theorem more_E (hm : fuel ≤ more) : ∀ (t : ET) (s : Es), MoreF (fun a => a.2) (evE vs fuel t s) (evE vs more t s)
  | .mk op v n l, s => by
    simp only [evE]
    exact (more_Es hm l s).bnd (fun a => (more_tick hm a.2).bnd (fun s2 => MoreF.refl _) fun s2 => up_sayE vs op v n a.1 s2) fun a => up_bnd (st := id) (up_tick more a.2) fun s2 => up_sayE vs op v n a.1 s2
theorem more_Es (hm : fuel ≤ more) : ∀ (l : List ET) (s : Es), MoreF (fun a => a.2) (evEs vs fuel l s) (evEs vs more l s)
  | [], s => by simp only [evEs]; exact MoreF.refl _
  | t :: r, s => by
    simp only [evEs]
    exact (more_E hm t s).bnd (fun a => (more_Es hm r a.2).bnd (fun c => MoreF.refl _) fun c => UpE.refl _) fun a => up_bnd (up_Es vs more r a.2) fun c => UpE.refl _
end
theorem more_loop (hm : fuel ≤ more) {ce ce' : Es → Ex (Int × Es)} {cb cb' : Es → Ex Es} (h1 : ∀ s, MoreF (fun a => a.2) (ce s) (ce' s)) (h2 : ∀ s, MoreF id (cb s) (cb' s)) (u1 : ∀ s, UpE s (stX (fun a => a.2) (ce' s))) (u2 : ∀ s, UpE s (stX id (cb' s))) :
    ∀ (g g' : Nat) (s : Es), g ≤ g' → MoreF id (loopX fuel ce cb g s) (loopX more ce' cb' g' s)
  | 0, g', s, _ => .inl ⟨rfl, up_loop more u1 u2 g' s⟩
  | g + 1, 0, _, hg => absurd hg (by omega)
  | g + 1, g' + 1, s, hg => by
    have hu : ∀ x : Int, ∀ s2 : Es, UpE s2 (stX id (if x = 0 then .ok s2 else bndX (cb' s2) fun s3 => bndX (tick more s3) fun s4 => loopX more ce' cb' g' s4)) := fun x s2 => by
      split
      · exact UpE.refl _
      · exact up_bnd (u2 _) fun s3 => up_bnd (st := id) (up_tick more s3) fun s4 => up_loop more u1 u2 g' s4
    simp only [loopX]
    refine (h1 s).bnd (fun a => (more_tick hm a.2).bnd (fun s2 => ?_) fun s2 => hu a.1 s2) fun a => up_bnd (st := id) (up_tick more a.2) fun s2 => hu a.1 s2
    by_cases h0 : a.1 = 0
    · rw [if_pos h0, if_pos h0]
      exact rfl
    · rw [if_neg h0, if_neg h0]
      exact (h2 s2).bnd (fun s3 => (more_tick hm s3).bnd (fun s4 => more_loop hm h1 h2 u1 u2 g g' s4 (by omega)) fun s4 => up_loop more u1 u2 g' s4) fun s3 => up_bnd (st := id) (up_tick more s3) fun s4 => up_loop more u1 u2 g' s4
theorem more_ite {b : Bool} {c c' : Es → Ex (Int × Es)} (h : ∀ s, MoreF (fun a => a.2) (c s) (c' s)) (s : Es) : MoreF (fun a => a.2) (if b then c s else .ok (0, s)) (if b then c' s else .ok (0, s)) := by
  cases b
  · exact rfl
  · exact h s
mutual
theorem more_S (hm : fuel ≤ more) : ∀ (t : ST) (s : Es), MoreF id (evS vs inp fuel t s) (evS vs inp more t s)
  | .mk op v e f b o, s => by
    have hb := fun s => more_Ss hm b s
    have ho := fun s => more_Ss hm o s
    simp only [evS]
    by_cases e5 : op = 5
    · rw [if_pos e5, if_pos e5]
      exact more_loop hm (more_E vs hm e) hb (up_E vs more e) (up_Ss vs inp more b) _ _ s (by omega)
    rw [if_neg e5, if_neg e5]
    by_cases e6 : op = 6
    · rw [if_pos e6, if_pos e6]
      have hu : ∀ x : Int, ∀ s2 : Es, UpE s2 (stX id (if x = 0 then evSs vs inp more o s2 else bndX (evSs vs inp more b s2) fun s3 => tick more s3)) := fun x s2 => by
        split
        · exact up_Ss vs inp more o s2
        · exact up_bnd (up_Ss vs inp more b s2) fun s3 => up_tick more s3
      refine (more_E vs hm e s).bnd (fun a => (more_tick hm a.2).bnd (fun s2 => ?_) fun s2 => hu a.1 s2) fun a => up_bnd (st := id) (up_tick more a.2) fun s2 => hu a.1 s2
      by_cases h0 : a.1 = 0
      · rw [if_pos h0, if_pos h0]
        exact ho s2
      · rw [if_neg h0, if_neg h0]
        exact (hb s2).bnd (fun s3 => more_tick hm s3) fun s3 => up_tick more s3
    rw [if_neg e6, if_neg e6]
    exact (more_ite (more_E vs hm e) s).bnd (fun a => (more_ite (more_E vs hm f) a.2).bnd (fun c => (more_tick hm c.2).bnd (fun s2 => MoreF.refl _) fun s2 => up_sayS vs inp op v a.1 c.1 s2) fun c => up_bnd (st := id) (up_tick more c.2) fun s2 => up_sayS vs inp op v a.1 c.1 s2)
      fun a => up_bnd (up_ite (up_E vs more f) a.2) fun c => up_bnd (st := id) (up_tick more c.2) fun s2 => up_sayS vs inp op v a.1 c.1 s2
theorem more_Ss (hm : fuel ≤ more) : ∀ (l : List ST) (s : Es), MoreF id (evSs vs inp fuel l s) (evSs vs inp more l s)
  | [], s => by simp only [evSs]; exact MoreF.refl _
  | t :: r, s => by
    simp only [evSs]
    exact (more_S hm t s).bnd (fun s1 => more_Ss hm r s1) fun s1 => up_Ss vs inp more r s1
end
theorem more_P (hm : fuel ≤ more) (body : List ST) (s : Es) : MoreF id (evP vs inp fuel body s) (evP vs inp more body s) := (more_Ss vs inp hm body s).bnd (fun s1 => more_tick hm s1) fun s1 => up_tick more s1
end
end E
end Go.Proofs.Ytmdjgejahnmfmae

/- Plain mathematics of what a program says, fourth part: what is not read, and what is not committed. -/
namespace Go.Proofs.Ytmdjgejahnmfmae
set_option maxRecDepth 20000
set_option maxHeartbeats 4000000
namespace E

/-! ### More input -/
/-- The same, unless a number was wanting. -/
def MoreI {α : Type} (X Y : Ex α) : Prop := match X with
  | .ok a => Y = .ok a
  | .error e => e.1 = 12 ∨ Y = .error e
theorem MoreI.refl {α : Type} (X : Ex α) : MoreI X X := by
  cases X with
  | ok a => exact rfl
  | error e => exact .inr rfl
theorem MoreI.bnd {α β : Type} {X Y : Ex α} {f g : α → Ex β} (h : MoreI X Y) (h2 : ∀ a, MoreI (f a) (g a)) : MoreI (bndX X f) (bndX Y g) := by
  cases X with
  | ok a =>
    rw [show Y = .ok a from h]
    exact h2 a
  | error e =>
    rcases h with h | rfl
    · exact .inl h
    · exact .inr rfl
section
variable (vs : List VarT) (inp inp2 : List Int) (fuel : Nat)
theorem inp_sayS (op v x y : Int) (s : Es) : MoreI (sayS vs inp op v x y s) (sayS vs (inp ++ inp2) op v x y s) := by
  unfold sayS
  by_cases e1 : op = 1
  · rw [if_pos e1, if_pos e1]; exact rfl
  rw [if_neg e1, if_neg e1]
  by_cases e2 : op = 2
  · rw [if_pos e2, if_pos e2]; exact MoreI.refl _
  rw [if_neg e2, if_neg e2]
  by_cases e3 : op = 3
  · rw [if_pos e3, if_pos e3]; exact rfl
  rw [if_neg e3, if_neg e3]
  by_cases e4 : op = 4
  · rw [if_pos e4, if_pos e4]
    by_cases hr : s.read < inp.length
    · have hr2 : s.read < (inp ++ inp2).length := by simp; omega
      have hg : (inp ++ inp2).getD s.read 0 = inp.getD s.read 0 := by
        rw [List.getD_eq_getElem?_getD, List.getElem?_append_left hr, ← List.getD_eq_getElem?_getD]
      rw [if_pos hr, if_pos hr2, hg]
      exact rfl
    · rw [if_neg hr]
      exact .inl rfl
  rw [if_neg e4, if_neg e4]
  exact rfl
theorem inp_loop {ce : Es → Ex (Int × Es)} {cb cb' : Es → Ex Es} (h2 : ∀ s, MoreI (cb s) (cb' s)) : ∀ (g : Nat) (s : Es), MoreI (loopX fuel ce cb g s) (loopX fuel ce cb' g s)
  | 0, s => .inr rfl
  | g + 1, s => by
    simp only [loopX]
    refine (MoreI.refl _).bnd fun a => (MoreI.refl _).bnd fun s2 => ?_
    by_cases h0 : a.1 = 0
    · rw [if_pos h0, if_pos h0]
      exact rfl
    · rw [if_neg h0, if_neg h0]
      exact (h2 s2).bnd fun s3 => (MoreI.refl _).bnd fun s4 => inp_loop h2 g s4
mutual
theorem inp_S : ∀ (t : ST) (s : Es), MoreI (evS vs inp fuel t s) (evS vs (inp ++ inp2) fuel t s)
  | .mk op v e f b o, s => by
    have hb := fun s => inp_Ss b s
    have ho := fun s => inp_Ss o s
    simp only [evS]
    by_cases e5 : op = 5
    · rw [if_pos e5, if_pos e5]
      exact inp_loop fuel hb _ s
    rw [if_neg e5, if_neg e5]
    by_cases e6 : op = 6
    · rw [if_pos e6, if_pos e6]
      refine (MoreI.refl _).bnd fun a => (MoreI.refl _).bnd fun s2 => ?_
      by_cases h0 : a.1 = 0
      · rw [if_pos h0, if_pos h0]
        exact ho s2
      · rw [if_neg h0, if_neg h0]
        exact (hb s2).bnd fun s3 => MoreI.refl _
    rw [if_neg e6, if_neg e6]
    exact (MoreI.refl _).bnd fun a => (MoreI.refl _).bnd fun c => (MoreI.refl _).bnd fun s2 => inp_sayS vs inp inp2 op v a.1 c.1 s2
theorem inp_Ss : ∀ (l : List ST) (s : Es), MoreI (evSs vs inp fuel l s) (evSs vs (inp ++ inp2) fuel l s)
  | [], s => by simp only [evSs]; exact rfl
  | t :: r, s => by
    simp only [evSs]
    exact (inp_S t s).bnd fun s1 => inp_Ss r s1
end
theorem inp_P (body : List ST) (s : Es) : MoreI (evP vs inp fuel body s) (evP vs (inp ++ inp2) fuel body s) := (inp_Ss vs inp inp2 fuel body s).bnd fun _ => MoreI.refl _
end

/-! ### Without commits -/
def opT : ST → Int
  | .mk op _ _ _ _ _ => op
mutual
def calmS : ST → ST
  | .mk op v e f b o => .mk op v e f (calmL b) (calmL o)
def calmL : List ST → List ST
  | [] => []
  | t :: r => if opT t = 7 then calmL r else calmS t :: calmL r
end
/-- The same, by no more instructions. -/
def Less (s t : Es) : Prop := t.n ≤ s.n ∧ t.read = s.read ∧ t.out = s.out ∧ t.cells = s.cells
theorem Less.refl (s : Es) : Less s s := ⟨Nat.le_refl _, rfl, rfl, rfl⟩
def LessX {α : Type} (R : α → α → Prop) (X Y : Ex α) : Prop := match X with
  | .ok a => ∃ c, Y = .ok c ∧ R a c
  | .error e => e.1 = 13 ∨ ∃ e', Y = .error e' ∧ e'.1 = e.1 ∧ Less e.2 e'.2
theorem LessX.bnd {α β : Type} {R : α → α → Prop} {R2 : β → β → Prop} {X Y : Ex α} {f g : α → Ex β} (h : LessX R X Y) (h2 : ∀ a c, R a c → LessX R2 (f a) (g c)) : LessX R2 (bndX X f) (bndX Y g) := by
  cases X with
  | ok a =>
    obtain ⟨c, rfl, hr⟩ := h
    exact h2 a c hr
  | error e =>
    rcases h with h | ⟨e', rfl, h⟩
    · exact .inl h
    · exact .inr ⟨e', rfl, h⟩
def LessV {α : Type} (a c : α × Es) : Prop := c.1 = a.1 ∧ Less a.2 c.2
theorem less_tick {fuel : Nat} {s t : Es} (h : Less s t) : LessX Less (tick fuel s) (tick fuel t) := by
  obtain ⟨h1, h2, h3, h4⟩ := h
  unfold tick
  by_cases hs : s.n < fuel
  · rw [if_pos hs, if_pos (by omega)]
    exact ⟨_, rfl, by show t.n + 1 ≤ s.n + 1; omega, h2, h3, h4⟩
  · rw [if_neg hs]
    exact .inl rfl
section
variable (vs : List VarT) (inp : List Int) (fuel : Nat)
theorem less_sayE (op v n : Int) (xs : List Int) {s t : Es} (h : Less s t) : LessX LessV (sayE vs op v n xs s) (sayE vs op v n xs t) := by
  have h4 := h.2.2.2
  unfold sayE
  rw [h4]
  by_cases e1 : op = 1
  · rw [if_pos e1, if_pos e1]; exact ⟨_, rfl, rfl, h⟩
  rw [if_neg e1, if_neg e1]
  by_cases e2 : op = 2
  · rw [if_pos e2, if_pos e2]; exact ⟨_, rfl, rfl, h⟩
  rw [if_neg e2, if_neg e2]
  by_cases e3 : op = 3
  · rw [if_pos e3, if_pos e3]
    split
    · exact ⟨_, rfl, rfl, h⟩
    · exact .inr ⟨_, rfl, rfl, h⟩
  rw [if_neg e3, if_neg e3]
  exact ⟨_, rfl, rfl, h⟩
theorem less_sayS (op v x y : Int) {s t : Es} (h : Less s t) : LessX Less (sayS vs inp op v x y s) (sayS vs inp op v x y t) := by
  obtain ⟨h1, h2, h3, h4⟩ := h
  unfold sayS
  rw [h2, h3, h4]
  by_cases e1 : op = 1
  · rw [if_pos e1, if_pos e1]; exact ⟨_, rfl, h1, rfl, rfl, rfl⟩
  rw [if_neg e1, if_neg e1]
  by_cases e2 : op = 2
  · rw [if_pos e2, if_pos e2]
    split
    · exact ⟨_, rfl, h1, rfl, rfl, rfl⟩
    · exact .inr ⟨_, rfl, rfl, h1, h2, h3, h4⟩
  rw [if_neg e2, if_neg e2]
  by_cases e3 : op = 3
  · rw [if_pos e3, if_pos e3]; exact ⟨_, rfl, h1, rfl, rfl, rfl⟩
  rw [if_neg e3, if_neg e3]
  by_cases e4 : op = 4
  · rw [if_pos e4, if_pos e4]
    split
    · exact ⟨_, rfl, h1, rfl, rfl, rfl⟩
    · exact .inr ⟨_, rfl, rfl, h1, h2, h3, h4⟩
  rw [if_neg e4, if_neg e4]
  exact ⟨_, rfl, h1, h2, h3, h4⟩
mutual
theorem less_E : ∀ (x : ET) {s t : Es}, Less s t → LessX LessV (evE vs fuel x s) (evE vs fuel x t)
  | .mk op v n l, s, t, h => by
    simp only [evE]
    refine (less_Es l h).bnd fun a c hac => (less_tick hac.2).bnd fun s2 t2 h2 => ?_
    rw [hac.1]
    exact less_sayE vs op v n a.1 h2
theorem less_Es : ∀ (l : List ET) {s t : Es}, Less s t → LessX LessV (evEs vs fuel l s) (evEs vs fuel l t)
  | [], s, t, h => by simp only [evEs]; exact ⟨_, rfl, rfl, h⟩
  | x :: r, s, t, h => by
    simp only [evEs]
    exact (less_E x h).bnd fun a c hac => (less_Es r hac.2).bnd fun d e hde => ⟨_, rfl, by rw [hac.1, hde.1], hde.2⟩
end
theorem less_loop {ce : Es → Ex (Int × Es)} {cb cb' : Es → Ex Es} (h1 : ∀ s t, Less s t → LessX LessV (ce s) (ce t)) (h2 : ∀ s t, Less s t → LessX Less (cb s) (cb' t)) : ∀ (g : Nat) (s t : Es), Less s t → LessX Less (loopX fuel ce cb g s) (loopX fuel ce cb' g t)
  | 0, s, t, _ => .inl rfl
  | g + 1, s, t, h => by
    simp only [loopX]
    refine (h1 s t h).bnd fun a c hac => (less_tick hac.2).bnd fun s2 t2 hst => ?_
    rw [hac.1]
    by_cases h0 : a.1 = 0
    · rw [if_pos h0, if_pos h0]
      exact ⟨_, rfl, hst⟩
    · rw [if_neg h0, if_neg h0]
      exact (h2 s2 t2 hst).bnd fun s3 t3 h3 => (less_tick h3).bnd fun s4 t4 h4 => less_loop h1 h2 g s4 t4 h4
theorem less_ite {b : Bool} {c : Es → Ex (Int × Es)} (h1 : ∀ s t, Less s t → LessX LessV (c s) (c t)) {s t : Es} (h : Less s t) : LessX LessV (if b then c s else .ok (0, s)) (if b then c t else .ok (0, t)) := by
  cases b
  · exact ⟨_, rfl, rfl, h⟩
  · exact h1 s t h
mutual
theorem less_S : ∀ (x : ST) {s t : Es}, Less s t → LessX Less (evS vs inp fuel x s) (evS vs inp fuel (calmS x) t)
  | .mk op v e f b o, s, t, h => by
    have hb : ∀ s t, Less s t → LessX Less (evSs vs inp fuel b s) (evSs vs inp fuel (calmL b) t) := fun s t h => less_Ss b h
    have ho : ∀ s t, Less s t → LessX Less (evSs vs inp fuel o s) (evSs vs inp fuel (calmL o) t) := fun s t h => less_Ss o h
    have he : ∀ s t, Less s t → LessX LessV (evE vs fuel e s) (evE vs fuel e t) := fun s t h => less_E vs fuel e h
    have hf : ∀ s t, Less s t → LessX LessV (evE vs fuel f s) (evE vs fuel f t) := fun s t h => less_E vs fuel f h
    simp only [calmS, evS]
    by_cases e5 : op = 5
    · rw [if_pos e5, if_pos e5]
      exact less_loop fuel he hb _ s t h
    rw [if_neg e5, if_neg e5]
    by_cases e6 : op = 6
    · rw [if_pos e6, if_pos e6]
      refine (he s t h).bnd fun a c hac => (less_tick hac.2).bnd fun s2 t2 hst => ?_
      rw [hac.1]
      by_cases h0 : a.1 = 0
      · rw [if_pos h0, if_pos h0]
        exact ho s2 t2 hst
      · rw [if_neg h0, if_neg h0]
        exact (hb s2 t2 hst).bnd fun s3 t3 h3 => less_tick h3
    rw [if_neg e6, if_neg e6]
    refine (less_ite he h).bnd fun a c hac => (less_ite hf hac.2).bnd fun a2 c2 hac2 => (less_tick hac2.2).bnd fun s2 t2 hst => ?_
    rw [hac.1, hac2.1]
    exact less_sayS vs inp op v a.1 a2.1 hst
theorem less_Ss : ∀ (l : List ST) {s t : Es}, Less s t → LessX Less (evSs vs inp fuel l s) (evSs vs inp fuel (calmL l) t)
  | [], s, t, h => by simp only [calmL, evSs]; exact ⟨_, rfl, h⟩
  | x :: r, s, t, h => by
    have hr : ∀ s t, Less s t → LessX Less (evSs vs inp fuel r s) (evSs vs inp fuel (calmL r) t) := fun s t h => less_Ss r h
    have hx : LessX Less (evS vs inp fuel x s) (evS vs inp fuel (calmS x) t) := less_S x h
    simp only [calmL]
    by_cases h7 : opT x = 7
    · rw [if_pos h7]
      simp only [evSs]
      have hst : LessX Less (evS vs inp fuel x s) (.ok t) := by
        cases x with
        | mk op v e f b o =>
          have h7 : op = 7 := h7
          subst h7
          simp only [evS]
          rw [if_neg (by decide), if_neg (by decide)]
          show LessX Less (bndX (tick fuel s) fun s2 => sayS vs inp 7 v 0 0 s2) (.ok t)
          unfold tick
          by_cases hs : s.n < fuel
          · rw [if_pos hs]
            obtain ⟨h1, h2, h3, h4⟩ := h
            exact ⟨t, rfl, by show t.n ≤ s.n + 1; omega, h2, h3, h4⟩
          · rw [if_neg hs]
            exact .inl rfl
      exact LessX.bnd (Y := .ok t) (g := fun t2 => evSs vs inp fuel (calmL r) t2) hst fun s1 t1 h1 => hr s1 t1 h1
    · rw [if_neg h7]
      simp only [evSs]
      exact hx.bnd fun s1 t1 h1 => hr s1 t1 h1
end
theorem less_P (body : List ST) {s t : Es} (h : Less s t) : LessX Less (evP vs inp fuel body s) (evP vs inp fuel (calmL body) t) := (less_Ss vs inp fuel body h).bnd fun _ _ h1 => less_tick h1
end
/-! What has no commits is a program, too. -/
theorem calmL_len : ∀ (l : List ST), (calmL l).length ≤ l.length
  | [] => by simp [calmL]
  | t :: r => by
    have := calmL_len r
    simp only [calmL]
    split
    · simp only [List.length_cons]; omega
    · simp only [List.length_cons]; omega
theorem ownS_less {nv : Nat} {op v : Int} {e f : ET} {lb lo lb' lo' : Nat} (h : ownS nv op v e f lb lo = 0) (h1 : lb' ≤ lb) (h2 : lo' ≤ lo) : ownS nv op v e f lb' lo' = 0 := by
  unfold ownS at h ⊢
  split at h
  · exact absurd h (by decide)
  rename_i c1
  rw [if_neg c1]
  split at h
  · exact absurd h (by decide)
  rename_i c2
  rw [if_neg c2]
  split at h
  · exact absurd h (by decide)
  rename_i c3
  rw [if_neg, h]
  intro hc
  apply c3
  simp only [Bool.or_eq_true, Bool.and_eq_true, decide_eq_true_eq] at hc ⊢
  rcases hc with ⟨a, c⟩ | ⟨a, c⟩
  · exact .inl ⟨a, by omega⟩
  · exact .inr ⟨a, by omega⟩
theorem ite_less {nv : Nat} {b : Bool} {e : ET} {d k k' m : Nat} (h : (if b then chkE nv e d k else .ok k) = .ok k') (hm : m ≤ k) : ∃ m', (if b then chkE nv e d m else .ok m) = .ok m' ∧ m' ≤ k' := by
  obtain ⟨c, rfl, hc⟩ := (Roomy.ite b (roomyE nv e)) d k k' h
  exact ⟨m + c, hc d m (Nat.le_refl _) hm, by omega⟩
mutual
theorem chkS_calm (nv : Nat) : ∀ (t : ST) {d k k' m : Nat}, chkS nv t d k = .ok k' → m ≤ k → ∃ m', chkS nv (calmS t) d m = .ok m' ∧ m' ≤ k'
  | .mk op v e f b o, d, k, k', m, h, hm => by
    simp only [chkS] at h
    obtain ⟨k1, h1, h⟩ := nextK_ok h
    obtain ⟨rfl, hd, hk⟩ := headK_ok h1
    split at h
    · cases h
    rename_i ho
    obtain ⟨k2, h2, h⟩ := nextK_ok h
    obtain ⟨k3, h3, h⟩ := nextK_ok h
    obtain ⟨k4, h4, h⟩ := nextK_ok h
    obtain ⟨m2, g2, hm2⟩ := ite_less h2 (show m + 1 ≤ k + 1 by omega)
    obtain ⟨m3, g3, hm3⟩ := ite_less h3 hm2
    obtain ⟨m4, g4, hm4⟩ := chkSs_calm nv b h4 hm3
    obtain ⟨m5, g5, hm5⟩ := chkSs_calm nv o h hm4
    refine ⟨m5, ?_, hm5⟩
    have ho' : ownS nv op v e f (calmL b).length (calmL o).length = 0 := ownS_less (by omega) (calmL_len b) (calmL_len o)
    simp only [calmS, chkS]
    rw [headK_mk hd (by omega)]
    simp only [nextK]
    rw [ho', if_neg (by simp), g2]
    simp only
    rw [g3]
    simp only
    rw [g4]
    simp only
    rw [g5]
theorem chkSs_calm (nv : Nat) : ∀ (l : List ST) {d k k' m : Nat}, chkSs nv l d k = .ok k' → m ≤ k → ∃ m', chkSs nv (calmL l) d m = .ok m' ∧ m' ≤ k'
  | [], d, k, k', m, h, hm => by
    simp only [chkSs, Except.ok.injEq] at h
    subst h
    exact ⟨m, by simp only [calmL, chkSs], hm⟩
  | t :: r, d, k, k', m, h, hm => by
    simp only [chkSs] at h
    obtain ⟨k1, h1, h⟩ := nextK_ok h
    obtain ⟨m1, g1, hm1⟩ := chkS_calm nv t h1 hm
    simp only [calmL]
    split
    · obtain ⟨c, hc, _⟩ := roomyS nv t d k k1 h1
      exact chkSs_calm nv r h (by omega)
    · obtain ⟨m2, g2, hm2⟩ := chkSs_calm nv r h hm1
      refine ⟨m2, ?_, hm2⟩
      simp only [chkSs]
      rw [g1]
      simp only [nextK]
      exact g2
end
theorem progFault_calm {vs : List VarT} {body : List ST} (h : progFault vs body = 0) : progFault vs (calmL body) = 0 := by
  obtain ⟨h1, h2, k, h3⟩ := progFault_ok h
  obtain ⟨m, h4, _⟩ := chkSs_calm vs.length body h3 (Nat.le_refl 0)
  exact progFault_mk h1 h2 h4
end E
end Go.Proofs.Ytmdjgejahnmfmae

/- Plain mathematics of a life: however it crashes, it is the life without crashes, so far; what is printed is printed once. -/
namespace Go.Proofs.Ytmdjgejahnmfmae
set_option maxRecDepth 20000
set_option maxHeartbeats 4000000
namespace E

theorem exI_fst (inp : List Int) (x : Is) (m : Md) (p p' : Pr) : (exI inp x m p).1 = (exI inp x m p').1 := by
  simp only [exI, apply_ite Prod.fst]
theorem exI_snd (inp : List Int) (x : Is) (m : Md) (p : Pr) : (exI inp x m p).2 = if x.1 = 11 then putP p m.out (topS m.stack) else p := by
  simp only [exI, apply_ite Prod.snd, ite_self]
  repeat' split
  all_goals first
    | rfl
    | (exfalso; omega)
theorem exI_out (inp : List Int) (x : Is) (m : Md) (p : Pr) : (exI inp x m p).1.out = if x.1 = 11 then m.out + 1 else m.out := by
  simp only [exI, apply_ite Prod.fst, apply_ite Md.out, ite_self]
  repeat' split
  all_goals first
    | rfl
    | (exfalso; omega)

section
variable (W : List Is) (inp : List Int) (c : Nat)
/-- The life without crashes behind so many instructions. -/
def pu (k : Nat) : Md × Pr := runB W inp k (mind0 c, ([], false))
variable {W inp c}
theorem pu_succ (k : Nat) : pu W inp c (k + 1) = stB W inp (pu W inp c k).1 (pu W inp c k).2 := by
  unfold pu
  rw [runB_add]
  rfl
theorem pu_out : ∀ (k : Nat), (pu W inp c k).1.out = (pu W inp c k).2.1.length ∧ (pu W inp c k).2.2 = false
  | 0 => ⟨rfl, rfl⟩
  | k + 1 => by
    obtain ⟨h1, h2⟩ := pu_out k
    rw [pu_succ]
    unfold stB
    split
    · rw [exI_snd, exI_out]
      split
      · unfold putP
        rw [if_pos h1]
        simp [h1, h2]
      · exact ⟨h1, h2⟩
    · exact ⟨h1, h2⟩
theorem pu_pre1 (k : Nat) : (pu W inp c k).2.1 <+: (pu W inp c (k + 1)).2.1 := by
  rw [pu_succ]
  unfold stB
  split
  · rw [exI_snd]
    split
    · unfold putP
      rw [if_pos (pu_out k).1]
      exact List.prefix_append _ _
    · exact List.prefix_refl _
  · exact List.prefix_refl _
theorem pu_pre {a g : Nat} (h : a ≤ g) : (pu W inp c a).2.1 <+: (pu W inp c g).2.1 := by
  induction g with
  | zero =>
    have : a = 0 := by omega
    subst this
    exact List.prefix_refl _
  | succ g ih =>
    by_cases e : a = g + 1
    · subst e; exact List.prefix_refl _
    · exact (ih (by omega)).trans (pu_pre1 g)
theorem pu_idle {n : Nat} (h : (pu W inp c n).1.state ≠ 0) : ∀ (j : Nat), n ≤ j → pu W inp c j = pu W inp c n := by
  intro j hj
  induction j with
  | zero =>
    have : n = 0 := by omega
    subst this
    rfl
  | succ j ih =>
    by_cases e : n = j + 1
    · subst e; rfl
    · have := ih (by omega)
      rw [pu_succ, this]
      unfold stB
      rw [if_neg h]
/-- What was done once is done again: nothing else is printed. -/
theorem pu_again {a g : Nat} (h : a ≤ g) : stB W inp (pu W inp c a).1 (pu W inp c g).2 = ((pu W inp c (a + 1)).1, (pu W inp c (max g (a + 1))).2) := by
  by_cases e : a = g
  · subst e
    rw [show max a (a + 1) = a + 1 by omega, pu_succ]
  · have hmax : max g (a + 1) = g := by omega
    rw [hmax]
    have hp : (pu W inp c (a + 1)).2.1 <+: (pu W inp c g).2.1 := pu_pre (by omega)
    rw [pu_succ] at hp ⊢
    unfold stB at hp ⊢
    by_cases hs : (pu W inp c a).1.state = 0
    · rw [if_pos hs] at hp ⊢
      rw [if_pos hs]
      refine Prod.ext (exI_fst _ _ _ _ _) ?_
      rw [exI_snd] at hp ⊢
      split
      · rename_i h11
        rw [if_pos h11] at hp
        show putP (pu W inp c g).2 _ _ = (pu W inp c g).2
        have ho := (pu_out (W := W) (inp := inp) (c := c) a).1
        unfold putP at hp ⊢
        rw [if_pos ho] at hp
        obtain ⟨r, hr⟩ := hp
        have hl := congrArg List.length hr
        simp only [List.length_append, List.length_cons, List.length_nil] at hl
        have hg : (pu W inp c g).2.1[(pu W inp c a).1.out]? = some (topS (pu W inp c a).1.stack) := by
          rw [← hr, ho]
          simp
        rw [if_neg (by omega), if_pos hg]
      · rfl
    · rw [if_neg hs, if_neg hs]
end

/-- A life, by the document: what it knows, what was committed last, the printer. -/
structure Lf where
  m : Md
  k : Md
  p : Pr
section
variable (W : List Is) (inp : List Int)
def stepL (q : Bool) (x : Lf) : Lf := ⟨(stB W inp x.m x.p).1, if q && comB W x.m then (stB W inp x.m x.p).1 else x.k, (stB W inp x.m x.p).2⟩
def wakeL (x : Lf) : Lf := { x with m := x.k }
/-- So many instructions, as long as it goes on. -/
def runL : Nat → Lf → Lf × Nat
  | 0, x => (x, 0)
  | n + 1, x => if x.m.state = 0 then ((runL n (stepL W inp true x)).1, (runL n (stepL W inp true x)).2 + 1) else (x, 0)
/-- To the next commit, so many at most; keep: it stays. -/
def tearL (keep : Bool) : Nat → Lf → Lf × Nat
  | 0, x => (x, 0)
  | n + 1, x => if comB W x.m then (wakeL (stepL W inp keep x), 1) else if x.m.state = 0 then ((tearL keep n (stepL W inp true x)).1, (tearL keep n (stepL W inp true x)).2 + 1) else (x, 0)
/-- A step of a life: its kind, its N, does a commit that is torn stay? -/
def doL (kind : Int) (n : Nat) (keep : Bool) (x : Lf) : Lf × Nat := if kind = 2 then (wakeL x, 0) else if kind = 3 then tearL W inp keep n x else runL W inp n x
variable {W inp} {c : Nat}
/-- It is the life without crashes, somewhere; and so is what was committed last; what was printed is printed without crashes by g instructions. -/
def InvL (W : List Is) (inp : List Int) (c : Nat) (x : Lf) (g : Nat) : Prop := ∃ a b, x.m = (pu W inp c a).1 ∧ x.k = (pu W inp c b).1 ∧ x.p = (pu W inp c g).2 ∧ a ≤ g ∧ b ≤ g
theorem invL0 : InvL W inp c ⟨mind0 c, mind0 c, ([], false)⟩ 0 := ⟨0, 0, rfl, rfl, rfl, Nat.le_refl _, Nat.le_refl _⟩
theorem InvL.wake {x : Lf} {g : Nat} (h : InvL W inp c x g) : InvL W inp c (wakeL x) g := by
  obtain ⟨a, b, _, h2, h3, _, h5⟩ := h
  exact ⟨b, b, h2, h2, h3, h5, h5⟩
theorem InvL.step {x : Lf} {g : Nat} (h : InvL W inp c x g) (q : Bool) : ∃ g', g ≤ g' ∧ g' ≤ g + 1 ∧ InvL W inp c (stepL W inp q x) g' := by
  obtain ⟨a, b, h1, h2, h3, h4, h5⟩ := h
  have hs := pu_again (W := W) (inp := inp) (c := c) h4
  rw [← h1, ← h3] at hs
  refine ⟨max g (a + 1), by omega, by omega, ?_⟩
  unfold stepL
  rw [hs]
  cases q && comB W x.m
  · exact ⟨a + 1, b, rfl, h2, rfl, by omega, by omega⟩
  · exact ⟨a + 1, a + 1, rfl, rfl, rfl, by omega, by omega⟩
theorem InvL.run : ∀ (n : Nat) {x : Lf} {g : Nat}, InvL W inp c x g → ∃ g', g ≤ g' ∧ g' ≤ g + (runL W inp n x).2 ∧ InvL W inp c (runL W inp n x).1 g'
  | 0, x, g, h => ⟨g, Nat.le_refl _, Nat.le_refl _, h⟩
  | n + 1, x, g, h => by
    simp only [runL]
    split
    · obtain ⟨g1, a1, a2, a3⟩ := h.step true
      obtain ⟨g2, b1, b2, b3⟩ := InvL.run n a3
      exact ⟨g2, by omega, by simp only; omega, b3⟩
    · exact ⟨g, Nat.le_refl _, Nat.le_refl _, h⟩
theorem InvL.tear (keep : Bool) : ∀ (n : Nat) {x : Lf} {g : Nat}, InvL W inp c x g → ∃ g', g ≤ g' ∧ g' ≤ g + (tearL W inp keep n x).2 ∧ InvL W inp c (tearL W inp keep n x).1 g'
  | 0, x, g, h => ⟨g, Nat.le_refl _, Nat.le_refl _, h⟩
  | n + 1, x, g, h => by
    simp only [tearL]
    split
    · obtain ⟨g1, a1, a2, a3⟩ := h.step keep
      exact ⟨g1, a1, a2, a3.wake⟩
    split
    · obtain ⟨g1, a1, a2, a3⟩ := h.step true
      obtain ⟨g2, b1, b2, b3⟩ := InvL.tear keep n a3
      exact ⟨g2, by omega, by simp only; omega, b3⟩
    · exact ⟨g, Nat.le_refl _, Nat.le_refl _, h⟩
theorem InvL.does {x : Lf} {g : Nat} (h : InvL W inp c x g) (kind : Int) (n : Nat) (keep : Bool) : ∃ g', g ≤ g' ∧ g' ≤ g + (doL W inp kind n keep x).2 ∧ InvL W inp c (doL W inp kind n keep x).1 g' := by
  unfold doL
  split
  · exact ⟨g, Nat.le_refl _, Nat.le_refl _, h.wake⟩
  split
  · exact InvL.tear keep n h
  · exact InvL.run n h
/-- What was printed begins what is printed without crashes by as many instructions; nothing else was to be printed. -/
theorem InvL.prints {x : Lf} {g all : Nat} (h : InvL W inp c x g) (hg : g ≤ all) : x.p.1 <+: (pu W inp c all).2.1 ∧ x.p.2 = false := by
  obtain ⟨a, b, _, _, h3, _, _⟩ := h
  rw [h3]
  exact ⟨pu_pre hg, (pu_out g).2⟩
theorem runL_pu : ∀ (n : Nat) {x : Lf} {a g : Nat}, x.m = (pu W inp c a).1 → x.p = (pu W inp c g).2 → a ≤ g → (runL W inp n x).1.m = (pu W inp c (a + n)).1 ∧ (runL W inp n x).1.p = (pu W inp c (max g (a + n))).2
  | 0, x, a, g, h1, h2, h3 => ⟨h1, by rw [show max g (a + 0) = g by omega]; exact h2⟩
  | n + 1, x, a, g, h1, h2, h3 => by
    simp only [runL]
    split
    · have hs := pu_again (W := W) (inp := inp) (c := c) h3
      rw [← h1, ← h2] at hs
      have := runL_pu n (x := stepL W inp true x) (a := a + 1) (g := max g (a + 1)) (by unfold stepL; rw [hs]) (by unfold stepL; rw [hs]) (by omega)
      rw [show a + (n + 1) = a + 1 + n by omega, show max g (a + 1 + n) = max (max g (a + 1)) (a + 1 + n) by omega]
      exact this
    · rename_i hs
      rw [h1] at hs
      refine ⟨?_, ?_⟩
      · rw [pu_idle hs (a + (n + 1)) (by omega)]; exact h1
      · rw [pu_idle hs (max g (a + (n + 1))) (by omega), ← pu_idle hs g h3]; exact h2
/-- A life with crashes is a life without: where that one has come to its end by n instructions, a life that has as many at last comes to just that. -/
theorem InvL.same {x : Lf} {g n : Nat} (h : InvL W inp c x g) (hn : (pu W inp c n).1.state ≠ 0) : (runL W inp n x).1.m = (pu W inp c n).1 ∧ (runL W inp n x).1.p = (pu W inp c n).2 := by
  obtain ⟨a, b, h1, _, h3, h4, _⟩ := h
  obtain ⟨g1, g2⟩ := runL_pu n h1 h3 h4
  rw [g1, g2, pu_idle hn (a + n) (by omega), pu_idle hn (max g (a + n)) (by omega)]
  exact ⟨rfl, rfl⟩
/-- Behind a commit that was done nothing is lost. -/
theorem commit_kept {x : Lf} (h : comB W x.m = true) : wakeL (stepL W inp true x) = stepL W inp true x := by
  unfold wakeL stepL
  rw [h]
  rfl
end
end E
end Go.Proofs.Ytmdjgejahnmfmae

/- Plain mathematics of the document's run: how far it comes. -/
namespace Go.Proofs.Ytmdjgejahnmfmae
set_option maxRecDepth 20000
set_option maxHeartbeats 4000000
namespace E

theorem exI_read (inp : List Int) (x : Is) (m : Md) (p : Pr) : (exI inp x m p).1.read ≤ m.read + 1 := by
  simp only [exI, apply_ite Prod.fst, apply_ite Md.read, ite_self]
  repeat' split
  all_goals omega
theorem exI_state (inp : List Int) (x : Is) (m : Md) (p : Pr) (h : m.state ≤ 14) : (exI inp x m p).1.state ≤ 14 := by
  simp only [exI, apply_ite Prod.fst, apply_ite Md.state]
  repeat' split
  all_goals omega
section
variable {W : List Is} {inp : List Int} {c : Nat}
theorem pu_bounds : ∀ (k : Nat), (pu W inp c k).1.read ≤ k ∧ (pu W inp c k).2.1.length ≤ k ∧ (pu W inp c k).1.state ≤ 14
  | 0 => ⟨Nat.le_refl _, Nat.le_refl _, Nat.zero_le _⟩
  | k + 1 => by
    obtain ⟨h1, h2, h3⟩ := pu_bounds k
    have ho := (pu_out (W := W) (inp := inp) (c := c) k).1
    rw [pu_succ]
    unfold stB
    split
    · have e1 := exI_read inp (W.getD (pu W inp c k).1.next (0, 0, 0, 0)) (pu W inp c k).1 (pu W inp c k).2
      refine ⟨by omega, ?_, exI_state _ _ _ _ h3⟩
      rw [exI_snd]
      split
      · unfold putP
        rw [if_pos ho]
        simp only [List.length_append, List.length_cons, List.length_nil]
        omega
      · omega
    · exact ⟨by simp only; omega, by simp only; omega, h3⟩
theorem pu_fit {Q : List Is} (hQ : Sim c 0 Q 0) (hJ : Jmps c 0 Q) : ∀ (k : Nat), Fit c Q (pu (Q ++ [haltI]) inp c k).1 (pu (Q ++ [haltI]) inp c k).2
  | 0 => fit0 _
  | k + 1 => by
    rw [pu_succ]
    exact (pu_fit hQ hJ k).step hQ hJ
end
/-- Where the document's run leaves off is what the program says. -/
theorem idX_at {vs : List VarT} {body : List ST} (h : progFault vs body = 0) (inp : List Int) {fuel c n : Nat} (hn : n ≤ fuel) (hl : ∀ k < n, (pu (insP vs body) inp c k).1.state = 0) (he : n = fuel ∨ (pu (insP vs body) inp c n).1.state ≠ 0) :
    resX (evP vs inp fuel body (es0 c)) = (if (pu (insP vs body) inp c n).1.state = 0 then 13 else if (pu (insP vs body) inp c n).1.state = 1 then 0 else (pu (insP vs body) inp c n).1.state - 2, (pu (insP vs body) inp c n).2.1, (pu (insP vs body) inp c n).1.cells, n) := by
  obtain ⟨n0, m, out, h1, ⟨h2, h3⟩, h4, h5⟩ := runP h inp fuel c
  have h2 : pu (insP vs body) inp c n0 = (m, (out, false)) := h2
  have hnn : n = n0 := by
    rcases Nat.lt_trichotomy n n0 with hlt | rfl | hlt
    · have := h3 n hlt
      rcases he with rfl | he
      · omega
      · exact absurd this he
    · rfl
    · have := hl n0 hlt
      rw [h2] at this
      rcases h4 with rfl | h4
      · omega
      · exact absurd this h4
  subst hnn
  rw [h5, h2]
end E
end Go.Proofs.Ytmdjgejahnmfmae

/- What the laws of package ideal take of it; their first look. -/
namespace Go.Proofs.Ytmdjgejahnmfmae
set_option maxRecDepth 20000
set_option maxHeartbeats 4000000
namespace E
open Go.Proofs

/-- What Run tells: the Result's code, what was printed, the cells; how many instructions; a code. -/
structure Told where
  code : Int
  out : List Int
  cells : List Int
  used : Int
  fault : Int
def toldX (r : Nat × List Int × List Int × Nat) : Told := ⟨r.1, r.2.1, r.2.2.1, r.2.2.2, 0⟩
def saysX (vs : List VarT) (body : List ST) (inp : List Int) (fuel : Nat) : Ex Es := evP vs inp fuel body (es0 (sumV vs).toNat)
def runI (vs : List VarT) (body : List ST) (inp : List Int) (fuel : Int) : Told :=
  if progFault vs body = 0 then (if inp.length ≤ 40 ∧ 0 ≤ fuel ∧ fuel ≤ 3000 then toldX (resX (saysX vs body inp fuel.toNat)) else ⟨0, [], [], 0, 1⟩) else ⟨0, [], [], 0, progFault vs body⟩
/-- A list of numbers that lies there, and has as much room as it has numbers. -/
def LsC (w : World) (v : Value) (l : List Int) : Prop := LsV w v l ∧ ∀ a n cap, v = .slice a n cap → n ≤ cap
theorem LsC.keep0 {w w' : World} {v : Value} {l : List Int} (h : LsC w v l) (hk : Keep [] w w') : LsC w' v l := ⟨h.1.keep0 hk, h.2⟩
/-- It lies in memory that was not there in w. -/
def Nw (w : World) (v : Value) : Prop := ∀ b q n c, v = .slice (some ⟨b, q, none⟩) n c → 0 < n → w.heap.size ≤ b
/-- What is to be shown of package ideal. -/
structure IdC : Prop where
  run : ∀ {F : Nat → Prop} {w : World} {x iv : Value} {vs : List VarT} {body : List ST} {inp : List Int} (fuel : Int), ProgV F w x vs body → In F w → LsC w iv inp → vs.length ≤ 100000 → szSs body ≤ 1000 → inp.length ≤ 100000 →
    Ret Try.prog 28 [x, iv, .int .i64 fuel] w fun r w' => (∃ ov cv, r = .tuple #[.agg (resC (runI vs body inp fuel).code ov cv).toArray, .int .i64 (runI vs body inp fuel).used, .int .i64 (runI vs body inp fuel).fault] ∧ LsC w' ov (runI vs body inp fuel).out ∧ LsV w' cv (runI vs body inp fuel).cells ∧ Nw w ov ∧ Nw w cv) ∧ Keep [] w w'

/-- How far a run comes. -/
theorem says_at {vs : List VarT} {body : List ST} (h : progFault vs body = 0) (hsz : szSs body ≤ 1000) (inp : List Int) (fuel : Nat) :
    ∃ n m out, n ≤ fuel ∧ pu (insP vs body) inp (sumV vs).toNat n = (m, (out, false)) ∧ (∀ k < n, (pu (insP vs body) inp (sumV vs).toNat k).1.state = 0) ∧ (n = fuel ∨ m.state ≠ 0) ∧ m.state ≤ 14 ∧ m.cells.length ≤ 48 ∧ out.length ≤ n ∧
      resX (saysX vs body inp fuel) = (if m.state = 0 then 13 else if m.state = 1 then 0 else m.state - 2, out, m.cells, n) := by
  obtain ⟨n, m, out, h1, ⟨h2, h3⟩, h4, h5⟩ := runP h inp fuel (sumV vs).toNat
  have h2 : pu (insP vs body) inp (sumV vs).toNat n = (m, (out, false)) := h2
  obtain ⟨c, hc, h48, hP⟩ := prog_prg h hsz
  have hcc : c = (sumV vs).toNat := by omega
  have hf := pu_fit (inp := inp) hP.sim hP.jmp n
  rw [hcc, show insSs vs body 0 ++ [haltI] = insP vs body from rfl, h2] at hf
  obtain ⟨b1, b2, b3⟩ := pu_bounds (W := insP vs body) (inp := inp) (c := (sumV vs).toNat) n
  rw [h2] at b2 b3
  have hcl := hf.cells
  exact ⟨n, m, out, h1, h2, h3, h4, b3, by have : (m.cells.length : Int) = ((sumV vs).toNat : Int) := hcl; omega, b2, h5⟩
theorem runI_bnd {vs : List VarT} {body : List ST} (hsz : szSs body ≤ 1000) (inp : List Int) (fuel : Int) : (runI vs body inp fuel).out.length ≤ 3000 ∧ (runI vs body inp fuel).cells.length ≤ 48 := by
  unfold runI
  split
  · rename_i h
    split
    · obtain ⟨n, m, out, h1, _, _, _, _, h5, h6, h7⟩ := says_at h hsz inp fuel.toNat
      rw [h7]
      exact ⟨by show out.length ≤ 3000; omega, h5⟩
    · exact ⟨by simp, by simp⟩
  · exact ⟨by simp, by simp⟩
theorem runI_in {vs : List VarT} {body : List ST} {inp : List Int} {fuel : Int} (h : progFault vs body = 0) (hi : inp.length ≤ 40) (h0 : 0 ≤ fuel) (h3 : fuel ≤ 3000) : runI vs body inp fuel = toldX (resX (saysX vs body inp fuel.toNat)) := by
  unfold runI
  rw [if_pos h, if_pos ⟨hi, h0, h3⟩]
theorem runI_not {vs : List VarT} {body : List ST} {inp : List Int} {fuel : Int} (h : ¬ progFault vs body = 0) : runI vs body inp fuel = ⟨0, [], [], 0, progFault vs body⟩ := by
  unfold runI
  rw [if_neg h]
theorem runI_off {vs : List VarT} {body : List ST} {inp : List Int} {fuel : Int} (h : progFault vs body = 0) (hi : ¬ (inp.length ≤ 40 ∧ 0 ≤ fuel ∧ fuel ≤ 3000)) : runI vs body inp fuel = ⟨0, [], [], 0, 1⟩ := by
  unfold runI
  rw [if_pos h, if_neg hi]
theorem toldX_fault (r : Nat × List Int × List Int × Nat) : (toldX r).fault = 0 := rfl

/-! ### The first look -/
def jz : List Value := [.int .i64 0, .int .i64 0, .int .i64 0, .slice none 0 0]
def je : List Value := [.int .i64 1, .int .i64 0, .int .i64 5, .slice none 0 0]
def js : List Value := scells 3 0 je jz (.slice none 0 0) (.slice none 0 0)
def jE : ET := .mk 1 0 5 []
def jS : List ST := [.mk 3 0 jE zeroT [] []]
theorem built_je : Try.prog.built 70 [(0, .int .i64 1), (2, .int .i64 5)] = some je.toArray := by kernel_rfl
theorem built_js : Try.prog.built 72 [(0, .int .i64 3), (2, .agg je.toArray)] = some js.toArray := by kernel_rfl
theorem slice_js : sliceCells Try.prog 23 1 [(0, .agg js.toArray)] = some (72, js.toArray) := by kernel_rfl
theorem built_jp (b : Nat) : Try.prog.built 25 [(1, .slice (some ⟨b, 0, none⟩) 1 1)] = some [Value.slice none 0 0, .slice (some ⟨b, 0, none⟩) 1 1].toArray := by kernel_rfl
theorem built_j0 : Try.prog.built 25 [] = some [Value.slice none 0 0, .slice none 0 0].toArray := by kernel_rfl
theorem j_run : runI [] jS [] 9 = ⟨0, [5], [], 3, 0⟩ := by kernel_rfl
theorem j_none : runI [] [] [] 0 = ⟨13, [], [], 0, 0⟩ := by kernel_rfl
theorem ls_nil (w : World) : LsC w (.slice none 0 0) [] := ⟨⟨none, 0, rfl, fun h => absurd h (by simp)⟩, fun a n cap h => by injection h with h1 h2 h3; omega⟩

theorem idealBegun_ret (hI : IdC) (w : World) : Ret Try.prog 27 [] w fun r w' => r = .bool true ∧ Keep [] w w' := by
  refine ret_of 59 Try.func27 rfl rfl (by simp) ?_
  refine au ?_
  refine pl_val _ rfl rfl (val_build _ rfl rfl built_je w) ?_
  refine pl_val _ rfl rfl (val_build _ rfl rfl built_js w) ?_
  refine pl_op rfl rfl (opTo_sliceN _ _ rfl rfl slice_js ?_)
  intro w1 g hg hs1 hk1 hb1
  refine pl_val _ rfl rfl (val_build _ rfl rfl (built_jp g) w1) ?_
  have he : ExprV (fun c => c < w1.heap.size) w1 je jE := ExprV.of ExprsV.nil
  have hz : ExprV (fun c => c < w1.heap.size) w1 jz zeroT := ExprV.of ExprsV.nil
  have hst : StmtV (fun c => c < w1.heap.size) w1 js (.mk 3 0 jE zeroT [] []) := StmtV.of he hz StmtsV.nil StmtsV.nil
  have hs : StmtsV (fun c => c < w1.heap.size) w1 (.slice (some ⟨g, 0, none⟩) 1 1) jS := by
    refine ⟨_, 1, fun _ => js, rfl, fun _ => ⟨g, 0, rfl, hb1.lt, fun i hi => ?_⟩, fun i hi => ?_⟩
    · have : i = 0 := by simp [jS] at hi; omega
      subst this
      exact hb1.range rfl
    · have : i = 0 := by simp [jS] at hi; omega
      subst this
      exact hst
  have hv : VarsV (fun c => c < w1.heap.size) w1 (.slice none 0 0) [] := ⟨none, 0, rfl, Nat.le_refl _, fun h => absurd h (by simp)⟩
  refine pl_op rfl rfl (opTo_call (fst := []) (cap := []) rfl rfl rfl rfl (by decide +kernel) ((hI.run (F := fun c => c < w1.heap.size) (vs := []) (body := jS) (inp := []) 9 ⟨_, _, rfl, hv, hs⟩ (fun c hc => hc) (ls_nil _) (by decide) (by decide) (by decide)).mono ?_))
  rintro r w2 ⟨⟨ov, cv, rfl, ⟨hov, _⟩, hcv, _⟩, hk2⟩
  rw [j_run] at hov hcv ⊢
  obtain ⟨b7, q7, c7, rfl, hl7, hr7⟩ := hov.at (i := 0) (x := 5) rfl
  obtain ⟨ca1, cc1, rfl, _⟩ := hcv
  refine au ?_
  refine pl_op rfl rfl (opTo_allocN _ rfl zero_re ?_)
  intro w3 x3 hx3 hs3 hk3 hb3
  refine pl_op rfl rfl (opTo_storeN (resC 0 (.slice (some ⟨b7, q7, none⟩) 1 c7) (.slice ca1 0 cc1)) rfl rfl rfl rfl size_re hb3 (by simp [resC]) (resC_one _ _ _ _ _ _ _) ?_)
  intro w4 hs4 hk4 hb4
  rw [splice_whole (by rfl)] at hb4
  have hk24 : Keep [] w2 w4 := hk3.trB hk4 (by omega)
  refine au ?_
  refine pl_val _ rfl rfl (val_build _ rfl rfl built_j0 w4) ?_
  refine pl_op rfl rfl (opTo_call (fst := []) (cap := []) rfl rfl rfl rfl (by decide +kernel) ((hI.run (F := fun _ => False) (vs := []) (body := []) (inp := []) 0 ⟨_, _, rfl, ⟨none, 0, rfl, Nat.le_refl _, fun h => absurd h (by simp)⟩, StmtsV.nil⟩ (fun c hc => hc.elim) (ls_nil _) (by decide) (by decide) (by decide)).mono ?_))
  rintro r w5 ⟨⟨ov2, cv2, rfl, ⟨hov2, _⟩, hcv2, _⟩, hk5⟩
  rw [j_none] at hov2 hcv2 ⊢
  obtain ⟨oa2, oc2, rfl, _⟩ := hov2
  obtain ⟨ca2, cc2, rfl, _⟩ := hcv2
  refine au ?_
  refine pl_op rfl rfl (opTo_allocN _ rfl zero_re ?_)
  intro w6 x6 hx6 hs6 hk6 hb6
  refine pl_op rfl rfl (opTo_storeN (resC 13 (.slice oa2 0 oc2) (.slice ca2 0 cc2)) rfl rfl rfl rfl size_re hb6 (by simp [resC]) (resC_one _ _ _ _ _ _ _) ?_)
  intro w7 hs7 hk7 hb7
  rw [splice_whole (by rfl)] at hb7
  have hk57 : Keep [] w5 w7 := hk6.trB hk7 (by omega)
  have hb4' := (hk5.tr hk57).blk hb4 (by simp)
  have hr7' := range_keep hr7 ((hk24.tr hk5).tr hk57) hl7 (by simp)
  refine au ?_
  refine ye ?_
  refine au ?_
  refine ye ?_
  refine au ?_
  refine pl_val _ rfl rfl (val_load1 hT rfl rfl rfl (hb4'.cell rfl)) ?_
  refine ye ?_
  refine au ?_
  refine pl_val _ rfl rfl (val_load1 hT rfl rfl rfl (hb4'.cell rfl)) ?_
  refine au ?_
  refine ye ?_
  refine au ?_
  refine pl_val _ rfl rfl (val_load1 hT rfl rfl rfl (hb4'.cell rfl)) ?_
  refine pl_val _ rfl rfl (val_index 0 hT rfl rfl rfl rfl rfl (by decide) w7) ?_
  refine pl_val _ rfl rfl (val_load1 hT rfl rfl rfl (hr7' 0 (.int .i64 5) rfl)) ?_
  refine ye ?_
  refine au ?_
  refine ye ?_
  refine au ?_
  refine ye ?_
  refine au ?_
  refine pl_val _ rfl rfl (val_load1 hT rfl rfl rfl (hb7.cell rfl)) ?_
  refine ye ?_
  refine au ?_
  exact rn_ret Try.func27 (.inl ⟨_, rfl, rfl⟩) ⟨rfl, (((hk1.tr hk2).tr hk24).tr hk5).tr hk57⟩
end E
end Go.Proofs.Ytmdjgejahnmfmae

/- The document's Begins and Ideal. -/
namespace Go.Proofs.Ytmdjgejahnmfmae
set_option maxRecDepth 20000
set_option maxHeartbeats 4000000
namespace E
open Go.Proofs

theorem codeB_nat (m : Md) (p : Pr) (h : p.2 = false) : codeB m p = (((if m.state = 0 then 13 else if m.state = 1 then 0 else m.state - 2 : Nat)) : Int) := by
  unfold codeB
  rw [h]
  simp only [Bool.false_eq_true, if_false]
  split
  · rfl
  · split
    · rw [if_neg (by omega)]; omega
    · rw [if_pos (by omega)]; rfl
theorem refIdeal_ret {F : Nat → Prop} {w : World} {x iv : Value} {vs : List VarT} {body : List ST} {inp : List Int} (fuel : Nat) (h : ProgV F w x vs body) (hF : In F w) (hi : LsV w iv inp) (hpf : progFault vs body = 0) (hsz : szSs body ≤ 1000) (hil : inp.length ≤ 1000) (hfu : fuel ≤ 3000) :
    Ret Try.prog 30 [x, iv, .int .i64 (fuel : Nat)] w fun r w' => (∃ ov cv, r = .tuple #[.agg (resC (toldX (resX (saysX vs body inp fuel))).code ov cv).toArray, .int .i64 (toldX (resX (saysX vs body inp fuel))).used] ∧ LsV w' ov (toldX (resX (saysX vs body inp fuel))).out ∧ LsV w' cv (toldX (resX (saysX vs body inp fuel))).cells) ∧ Keep [] w w' := by
  have hh := h
  obtain ⟨vv, bv, rfl, hv, hb⟩ := h
  obtain ⟨av, capv, rfl⟩ := hv.form
  obtain ⟨ab, capb, rfl⟩ := hb.form
  have hi0 := hi
  obtain ⟨ia, icap, rfl, _⟩ := hi
  obtain ⟨c, hc, hc48, hP⟩ := prog_prg hpf hsz
  have hcN : (sumV vs).toNat = c := by omega
  refine ret_of 25 Try.func30 rfl rfl (by simp) ?_
  refine au ?_
  refine pl_op rfl rfl (opTo_boxN [.slice av vs.length capv, .slice ab body.length capb] rfl rfl rfl ?_)
  intro w1 p hp0 hs1 hk1 hp1
  refine pl_op rfl rfl (opTo_allocN _ rfl zero_re ?_)
  intro w2 y hy0 hs2 hk2 hy2
  have hk02 := hk1.tr hk2
  have hp2 := hk2.blk hp1 (by simp)
  refine au ?_
  refine pl_val _ rfl rfl (val_load [.slice av vs.length capv, .slice ab body.length capb] hT rfl rfl rfl (hp2.range (by rfl))) ?_
  refine au ?_
  refine pl_op rfl rfl (opTo_call (fst := []) (cap := []) rfl rfl rfl rfl (by decide +kernel) ((newBeing_ret (hh.keep hk02 hF.stays) (hF.keep hk02) (hi0.keep0 hk02) hpf hsz hc hc48).mono ?_))
  rintro r w3 ⟨b, cb, rw0, rfl, hB3⟩
  have hW : insP vs body = insSs vs body 0 ++ [haltI] := rfl
  refine au ?_
  refine rn_ind (fun t σ w' => ∃ (n : Nat) (kk : Md) (rw : Rws), n ≤ fuel ∧ t = fuel - n ∧ σ = [(2, .int .i64 (fuel : Nat)), (6, .pointer (some ⟨y, 0, none⟩)), (8, .pointer (some ⟨b, 0, none⟩)), (9, .int .i64 (n : Nat))] ∧ Bw w2 w' b (insP vs body) inp cb (.slice ia inp.length icap) rw (pu (insP vs body) inp c n).1 kk (pu (insP vs body) inp c n).2 ∧ ∀ k < n, (pu (insP vs body) inp c k).1.state = 0) fuel _ ?_ ⟨0, _, rw0, by omega, by omega, rfl, hB3, fun k hk => by omega⟩ ?_
  · exact ⟨rfl, rfl, rfl, rfl, trivial⟩
  clear hB3
  rintro t σ w4 ih ⟨n, kk, rw1, hn, rfl, rfl, hB4, hst4⟩
  obtain ⟨b1, b2, b3⟩ := pu_bounds (W := insP vs body) (inp := inp) (c := c) n
  have hfit := pu_fit (inp := inp) hP.sim hP.jmp n
  rw [← hW] at hfit
  refine au ?_
  by_cases hlt : n < fuel
  · refine ye ?_
    refine au ?_
    refine pl_op rfl rfl (opTo_call (fst := []) (cap := []) rfl rfl rfl rfl (by decide +kernel) ((bStep_ret (Q := insSs vs body 0) hP hB4 hfit (by omega) (by omega) (by omega) false).mono ?_))
    rintro r w5 ⟨hr5, rw2, hB5, _, _⟩
    have hr5 : r = .bool (decide ((pu (insP vs body) inp c n).1.state = 0)) := hr5
    subst hr5
    have hB5 : Bw w2 w5 b (insP vs body) inp cb (.slice ia inp.length icap) rw2 (stB (insP vs body) inp (pu (insP vs body) inp c n).1 (pu (insP vs body) inp c n).2).1 kk (stB (insP vs body) inp (pu (insP vs body) inp c n).1 (pu (insP vs body) inp c n).2).2 := hB5
    by_cases hs0 : (pu (insP vs body) inp c n).1.state = 0
    · rw [decide_eq_true hs0]
      refine au ?_
      refine pl_num (((n + 1 : Nat) : Int)) rfl rfl rfl rfl rfl (by simp only [ariP]; omega) ?_
      refine au ?_
      refine rn_sub ?_ (ih (fuel - (n + 1)) [(2, .int .i64 (fuel : Nat)), (6, .pointer (some ⟨y, 0, none⟩)), (8, .pointer (some ⟨b, 0, none⟩)), (9, .int .i64 ((n + 1 : Nat) : Int))] w5 (by omega) ⟨n + 1, kk, rw2, by omega, rfl, rfl, ?_, ?_⟩)
      · exact ⟨rfl, rfl, rfl, rfl, trivial⟩
      · rw [pu_succ]
        exact hB5
      · intro k hk
        by_cases hkn : k = n
        · rw [hkn]; exact hs0
        · exact hst4 k (by omega)
    · rw [decide_eq_false hs0]
      have hid : stB (insP vs body) inp (pu (insP vs body) inp c n).1 (pu (insP vs body) inp c n).2 = pu (insP vs body) inp c n := by
        unfold stB
        rw [if_neg hs0]
      have hX := idX_at hpf inp hn hst4 (.inr hs0)
      have hsx : saysX vs body inp fuel = evP vs inp fuel body (es0 c) := by unfold saysX; rw [hcN]
      have hR := hX
      rw [← hsx] at hR
      rw [hid] at hB5
      refine au ?_
      refine pl_op rfl rfl (opTo_call (fst := []) (cap := []) rfl rfl rfl rfl (by decide +kernel) ((bNow_ret hB5 (by omega)).mono ?_))
      rintro r wn ⟨rfl, hkn⟩
      have hBn := hB5.keep0 hkn
      obtain ⟨oa, oc, hoe⟩ := hBn.ro.form
      obtain ⟨ca, cc, hce⟩ := hBn.rc.form
      have hyn := hBn.kp.blk hy2 (by simp)
      rw [hoe, hce]
      refine au ?_
      refine pl_op rfl rfl (opTo_storeN (resC _ (.slice oa _ oc) (.slice ca _ cc)) rfl rfl rfl rfl size_re hyn (by simp [resC]) (resC_one _ _ _ _ _ _ _) ?_)
      intro we hse hke hbe
      rw [splice_whole (by rfl)] at hbe
      have hkE : Keep [] w we := (hk02.tr hBn.kp).trB hke (by have := hk1.size; omega)
      have hyl := hy2.lt
      have hlo := (hBn.ro.keep hke fun k hk hm => by have := (hBn.ro.lt k hk).1; have := List.mem_singleton.1 hm; omega).lies
      have hlc := (hBn.rc.keep hke fun k hk hm => by have := (hBn.rc.lt k hk).1; have := List.mem_singleton.1 hm; omega).lies
      rw [hoe] at hlo
      rw [hce] at hlc
      refine au ?_
      refine rn_ret Try.func30 (.inr (.inr (.inr (.inl ⟨_, _, _, _, _, _, rfl, rfl, blk_loadVar hT hbe rfl, rfl, rfl⟩)))) ⟨⟨.slice oa (pu (insP vs body) inp c n).2.1.length oc, .slice ca (pu (insP vs body) inp c n).1.cells.length cc, ?_, ?_, ?_⟩, hkE⟩
      · rw [hR]
        show _ = Value.tuple #[.agg (resC (((if (pu (insP vs body) inp c n).1.state = 0 then 13 else if (pu (insP vs body) inp c n).1.state = 1 then 0 else (pu (insP vs body) inp c n).1.state - 2 : Nat)) : Int) _ _).toArray, _]
        rw [← codeB_nat _ _ (pu_out (W := insP vs body) (inp := inp) (c := c) n).2]
        rfl
      · rw [hR]
        exact hlo
      · rw [hR]
        exact hlc
  · refine nay ?_
    have hX := idX_at hpf inp hn hst4 (.inl (by omega))
    have hsx : saysX vs body inp fuel = evP vs inp fuel body (es0 c) := by unfold saysX; rw [hcN]
    have hR := hX
    rw [← hsx] at hR
    refine au ?_
    refine pl_op rfl rfl (opTo_call (fst := []) (cap := []) rfl rfl rfl rfl (by decide +kernel) ((bNow_ret hB4 (by omega)).mono ?_))
    rintro r wn ⟨rfl, hkn⟩
    have hBn := hB4.keep0 hkn
    obtain ⟨oa, oc, hoe⟩ := hBn.ro.form
    obtain ⟨ca, cc, hce⟩ := hBn.rc.form
    have hyn := hBn.kp.blk hy2 (by simp)
    rw [hoe, hce]
    refine au ?_
    refine pl_op rfl rfl (opTo_storeN (resC _ (.slice oa _ oc) (.slice ca _ cc)) rfl rfl rfl rfl size_re hyn (by simp [resC]) (resC_one _ _ _ _ _ _ _) ?_)
    intro we hse hke hbe
    rw [splice_whole (by rfl)] at hbe
    have hkE : Keep [] w we := (hk02.tr hBn.kp).trB hke (by have := hk1.size; omega)
    have hyl := hy2.lt
    have hlo := (hBn.ro.keep hke fun k hk hm => by have := (hBn.ro.lt k hk).1; have := List.mem_singleton.1 hm; omega).lies
    have hlc := (hBn.rc.keep hke fun k hk hm => by have := (hBn.rc.lt k hk).1; have := List.mem_singleton.1 hm; omega).lies
    rw [hoe] at hlo
    rw [hce] at hlc
    refine au ?_
    refine rn_ret Try.func30 (.inr (.inr (.inr (.inl ⟨_, _, _, _, _, _, rfl, rfl, blk_loadVar hT hbe rfl, rfl, rfl⟩)))) ⟨⟨.slice oa (pu (insP vs body) inp c n).2.1.length oc, .slice ca (pu (insP vs body) inp c n).1.cells.length cc, ?_, ?_, ?_⟩, hkE⟩
    · rw [hR]
      show _ = Value.tuple #[.agg (resC (((if (pu (insP vs body) inp c n).1.state = 0 then 13 else if (pu (insP vs body) inp c n).1.state = 1 then 0 else (pu (insP vs body) inp c n).1.state - 2 : Nat)) : Int) _ _).toArray, _]
      rw [← codeB_nat _ _ (pu_out (W := insP vs body) (inp := inp) (c := c) n).2]
      rfl
    · rw [hR]
      exact hlo
    · rw [hR]
      exact hlc
end E
end Go.Proofs.Ytmdjgejahnmfmae

/- Contracts of the document's looking: bad, head, variable, expr. -/
namespace Go.Proofs.Ytmdjgejahnmfmae
set_option maxRecDepth 20000
set_option maxHeartbeats 4000000
namespace E
open Go.Proofs

abbrev tLk : Nat := 109
def lkC (a b : Value) (n : Nat) (c : Int) : List Value := [a, b, .int .i64 (n : Nat), .int .i64 c]
def badC (is : Bool) (c cd : Int) : Int := if is = true ∧ c = 0 then cd else c

section
variable {w : World} {j n : Nat} {a b : Value} {c : Int}

theorem bad_ret (h : Blk w j (lkC a b n c) tLk) (is : Bool) (cd : Int) :
    Ret Try.prog 78 [.pointer (some ⟨j, 0, none⟩), .bool is, .int .i64 cd] w fun r w' => r = .tuple #[] ∧ Blk w' j (lkC a b n (badC is c cd)) tLk ∧ Keep [j] w w' := by
  refine ret_of 18 Try.func78 rfl rfl (by simp) ?_
  have h' := h
  unfold lkC at h'
  cases is with
  | false =>
    refine au ?_
    refine rn_end Try.func78 (.inr (.inl ⟨rfl, rfl⟩)) ⟨rfl, ?_, Keep.refl _ _⟩
    simpa [badC] using h
  | true =>
    by_cases hc : c = 0
    · refine aub ?_
      refine pl_op rfl rfl (opTo_storeN [.int .i64 cd] rfl rfl rfl rfl (by kernel_rfl) h' (by simp) (by simp; rfl) ?_)
      intro w1 hs1 hk1 hB1
      refine au ?_
      refine rn_end Try.func78 (.inr (.inl ⟨rfl, rfl⟩)) ⟨rfl, ?_, hk1⟩
      have e : badC true c cd = cd := by simp [badC, hc]
      rw [e]
      exact hB1
    · refine aub ?_
      refine rn_end Try.func78 (.inr (.inl ⟨rfl, rfl⟩)) ⟨rfl, ?_, Keep.refl _ _⟩
      have e : badC true c cd = c := by simp [badC, hc]
      rw [e]
      exact h

theorem head_ret (h : Blk w j (lkC a b n c) tLk) (deep : Int) (hn : n ≤ 100000) :
    Ret Try.prog 77 [.pointer (some ⟨j, 0, none⟩), .int .i64 deep] w fun r w' => r = .tuple #[] ∧ Blk w' j (lkC a b (n + 1) (badC (decide (n + 1 > 150)) (badC (decide (deep > 12)) c 4) 3)) tLk ∧ Keep [j] w w' := by
  refine ret_of 22 Try.func77 rfl rfl (by simp) ?_
  have h' := h
  unfold lkC at h'
  refine aub ?_
  refine pl_num (((n + 1 : Nat) : Int)) rfl rfl rfl rfl rfl (by simp only [ariP]; omega) ?_
  refine au ?_
  refine pl_op rfl rfl (opTo_storeN [.int .i64 ((n + 1 : Nat) : Int)] rfl rfl rfl rfl (by kernel_rfl) h' (by simp) (by simp; rfl) ?_)
  intro w1 hs1 hk1 hB1
  have hB1' : Blk w1 j (lkC a b (n + 1) c) tLk := hB1
  refine au ?_
  refine pl_val (.bool (decide (deep > 12))) rfl rfl (val_int .i64 _ _ _ rfl rfl rfl (by rfl) w1) ?_
  refine pl_op rfl rfl (opTo_call rfl rfl rfl rfl (by decide +kernel) ((bad_ret hB1' (decide (deep > 12)) 4).mono ?_))
  rintro v2 w2 ⟨rfl, hB2, hk2⟩
  have hB2' := hB2
  unfold lkC at hB2'
  refine au ?_
  refine pl_val _ rfl rfl (val_load1 hT rfl rfl rfl (hB2'.cell rfl)) ?_
  refine pl_val (.bool (decide (n + 1 > 150))) rfl rfl (val_int .i64 _ _ _ rfl rfl rfl (by simp only [intOp]; congr 2; simp; omega) w2) ?_
  refine pl_op rfl rfl (opTo_call rfl rfl rfl rfl (by decide +kernel) ((bad_ret hB2 (decide (n + 1 > 150)) 3).mono ?_))
  rintro v3 w3 ⟨rfl, hB3, hk3⟩
  refine au ?_
  exact rn_end Try.func77 (.inr (.inl ⟨rfl, rfl⟩)) ⟨rfl, hB3, (hk1.tr hk2).tr hk3⟩

def varC (nv : Nat) (v : Int) (has : Bool) (c : Int) : Int := if has then badC (decide (v < 0 ∨ v ≥ (nv : Int))) c 1 else badC (decide (v ≠ 0)) c 5

theorem variable_ret {av : Option Addr} {nv capv : Nat} (h : Blk w j (lkC (.slice av nv capv) b n c) tLk) (v : Int) (has : Bool) :
    Ret Try.prog 81 [.pointer (some ⟨j, 0, none⟩), .int .i64 v, .bool has] w fun r w' => r = .tuple #[] ∧ Blk w' j (lkC (.slice av nv capv) b n (varC nv v has c)) tLk ∧ Keep [j] w w' := by
  refine ret_of 25 Try.func81 rfl rfl (by simp) ?_
  have h' := h
  unfold lkC at h'
  cases has with
  | true =>
    by_cases h1 : v < 0
    · refine aub ?_
      refine pl_op rfl rfl (opTo_call rfl rfl rfl rfl (by decide +kernel) ((bad_ret h true 1).mono ?_))
      rintro v2 w2 ⟨rfl, hB2, hk2⟩
      refine au ?_
      refine rn_end Try.func81 (.inr (.inl ⟨rfl, rfl⟩)) ⟨rfl, ?_, hk2⟩
      have e : varC nv v true c = badC true c 1 := by simp [varC, h1]
      rw [e]
      exact hB2
    · refine aub ?_
      refine pl_val (.bool (decide (v ≥ (nv : Int)))) rfl rfl (val_int .i64 _ _ _ rfl rfl rfl (by rfl) w) ?_
      refine au ?_
      refine pl_op rfl rfl (opTo_call rfl rfl rfl rfl (by decide +kernel) ((bad_ret h (decide (v ≥ (nv : Int))) 1).mono ?_))
      rintro v2 w2 ⟨rfl, hB2, hk2⟩
      refine au ?_
      refine rn_end Try.func81 (.inr (.inl ⟨rfl, rfl⟩)) ⟨rfl, ?_, hk2⟩
      have e : varC nv v true c = badC (decide (v ≥ (nv : Int))) c 1 := by simp [varC, h1]
      rw [e]
      exact hB2
  | false =>
    refine au ?_
    refine pl_val (.bool (decide (v ≠ 0))) rfl rfl (val_int .i64 _ _ _ rfl rfl rfl (by simp only [intOp]; congr 2; rw [Bool.eq_iff_iff]; simp) w) ?_
    refine pl_op rfl rfl (opTo_call rfl rfl rfl rfl (by decide +kernel) ((bad_ret h (decide (v ≠ 0)) 5).mono ?_))
    rintro v2 w2 ⟨rfl, hB2, hk2⟩
    refine au ?_
    exact rn_end Try.func81 (.inr (.inl ⟨rfl, rfl⟩)) ⟨rfl, hB2, hk2⟩
end

/-- From how many parts, and which code, to how many and which, by a check. -/
def Tr (x : Nat → Except Int Nat) (n : Nat) (c : Int) (n' : Nat) (c' : Int) : Prop :=
  (c ≠ 0 → n' = n ∧ c' = c) ∧ (c = 0 → (∀ q, x n = .ok q → n' = q ∧ c' = 0) ∧ ∀ e, x n = .error e → c' = e) ∧ n' ≤ 151 ∧ (c' = 0 → n' ≤ 150)
theorem Tr.id {n : Nat} {c : Int} (h : n ≤ 151) (h0 : c = 0 → n ≤ 150) : Tr (fun k => .ok k) n c n c := ⟨fun _ => ⟨rfl, rfl⟩, fun hc => ⟨fun q hq => by injection hq with hq; exact ⟨hq, hc⟩, fun e he => by cases he⟩, h, h0⟩
theorem Tr.seq {x y : Nat → Except Int Nat} {n n1 n2 : Nat} {c c1 c2 : Int} (h1 : Tr x n c n1 c1) (hx : Coded (x n)) (h2 : Tr y n1 c1 n2 c2) : Tr (fun k => nextK (x k) y) n c n2 c2 := by
  refine ⟨fun hc => ?_, fun hc => ?_, h2.2.2⟩
  · obtain ⟨rfl, rfl⟩ := h1.1 hc
    exact h2.1 hc
  · obtain ⟨ha, hb⟩ := h1.2.1 hc
    cases hxn : x n with
    | error e =>
      have := hb e hxn
      subst this
      obtain ⟨rfl, rfl⟩ := h2.1 (hx _ hxn)
      exact ⟨fun q hq => (by simp only [nextK, hxn] at hq; cases hq), fun e' he => (by simp only [nextK, hxn] at he; injection he)⟩
    | ok k1 =>
      obtain ⟨rfl, rfl⟩ := ha k1 hxn
      have := h2.2.1 rfl
      exact ⟨fun q hq => this.1 q (by simpa only [nextK, hxn] using hq), fun e he => this.2 e (by simpa only [nextK, hxn] using he)⟩

theorem look_chain (nv n : Nat) (deep : Int) (known fits1 fits2 named : Bool) (v : Int) (k2 f1 f2 : Bool) (h1 : k2 = !known) (h2 : (f1 || f2) = !(fits1 && fits2)) :
    varC nv v named (badC f2 (badC f1 (badC k2 (badC (decide (n + 1 > 150)) (badC (decide (deep > 12)) 0 4) 3) 2) 5) 5) = lookK nv n deep known (fits1 && fits2) named v := by
  unfold lookK
  by_cases d : deep > 12
  · have : varC nv v named 4 = 4 := by cases named <;> simp [varC, badC]
    simp [badC, d, this]
  · by_cases m : n + 1 > 150
    · have : varC nv v named 3 = 3 := by cases named <;> simp [varC, badC]
      simp [badC, d, m, this]
    · cases known with
      | false =>
        have : varC nv v named 2 = 2 := by cases named <;> simp [varC, badC]
        subst h1
        simp [badC, d, m, this]
      | true =>
        subst h1
        cases hf : (fits1 && fits2) with
        | false =>
          rw [hf] at h2
          have : varC nv v named 5 = 5 := by cases named <;> simp [varC, badC]
          cases f1 with
          | true => simp [badC, d, m, this]
          | false =>
            simp at h2
            subst h2
            simp [badC, d, m, this]
        | true =>
          rw [hf] at h2
          simp at h2
          obtain ⟨rfl, rfl⟩ := h2
          have : varC nv v named 0 = varK nv v named := by cases named <;> simp [varC, badC, varK]
          simp [badC, d, m, this]

theorem lookExpr_ret {j nv capv : Nat} {av : Option Addr} {b : Value} : ∀ (s : Nat) (t : ET), szE t ≤ s → szE t ≤ 100000 → ∀ {F : Nat → Prop} {w : World} {cs : List Value} (deep n : Nat) (c : Int), ExprV F w cs t → In F w → ¬ F j → Blk w j (lkC (.slice av nv capv) b n c) tLk → deep ≤ 14 → n ≤ 151 → (c = 0 → n ≤ 150) →
    Ret Try.prog 82 [.pointer (some ⟨j, 0, none⟩), .agg cs.toArray, .int .i64 (deep : Nat)] w fun r w' => r = .tuple #[] ∧ (∃ n' c', Blk w' j (lkC (.slice av nv capv) b n' c') tLk ∧ Tr (chkE nv t deep) n c n' c') ∧ Keep [j] w w' := by
  intro s
  induction s with
  | zero => intro t ht; have := szE_pos t; omega
  | succ s ih =>
    intro t ht ht3 F w cs deep n c h hF hFj hJ hdeep hn hn0
    obtain ⟨op, v, nn, l⟩ := t
    obtain ⟨lv, rfl, hl⟩ := h.inv
    obtain ⟨al, capl, rfl⟩ := hl.form
    simp only [szE] at ht ht3
    have hlen := szEs_len l
    refine ret_of 75 Try.func82 rfl rfl (by simp) ?_
    refine au ?_
    refine pl_op rfl rfl (opTo_boxN [.int .i64 op, .int .i64 v, .int .i64 nn, .slice al l.length capl] rfl rfl rfl ?_)
    intro w1 x hx hs1 hk1 hX1
    have hJ1 := hk1.blk hJ (by simp)
    have hJ1' := hJ1
    unfold lkC at hJ1'
    have hxj : x ≠ j := hX1.ne hJ1 (by decide)
    refine au ?_
    refine pl_val _ rfl rfl (val_load1 hT rfl rfl rfl (hJ1'.cell rfl)) ?_
    by_cases hc : c = 0
    · subst hc
      have hn150 := hn0 rfl
      refine nay ?_
      refine au ?_
      refine pl_op rfl rfl (opTo_call rfl rfl rfl rfl (by decide +kernel) ((head_ret hJ1 (deep : Nat) (by omega)).mono ?_))
      rintro v2 w2 ⟨rfl, hJ2, hk2⟩
      have hX2 := hk2.blk hX1 (by simpa using hxj)
      refine au ?_
      refine pl_val _ rfl rfl (val_load1 hT rfl rfl rfl (hX2.cell rfl)) ?_
      refine pl_op rfl rfl (opTo_call rfl rfl rfl rfl (by decide +kernel) ((partsOf_ret op w2).mono ?_))
      rintro v3 w3 ⟨rfl, rfl⟩
      refine au ?_
      refine pl_val (.bool (!knownE op)) rfl rfl (val_int .i64 _ _ _ rfl rfl rfl (by simp only [intOp]; congr 2; unfold knownE; rw [Bool.eq_iff_iff]; simp) w3) ?_
      refine pl_op rfl rfl (opTo_call rfl rfl rfl rfl (by decide +kernel) ((bad_ret hJ2 (!knownE op) 2).mono ?_))
      rintro v4 w4 ⟨rfl, hJ4, hk4⟩
      have hX4 := hk4.blk hX2 (by simpa using hxj)
      refine au ?_
      refine pl_val _ rfl rfl (val_load1 hT rfl rfl rfl (hX4.cell rfl)) ?_
      refine au ?_
      refine pl_val (.bool (!decide ((l.length : Int) = partsOf op))) rfl rfl (val_int .i64 _ _ _ rfl rfl rfl (by simp only [intOp]; congr 2; rw [Bool.eq_iff_iff]; simp; omega) w4) ?_
      refine pl_op rfl rfl (opTo_call rfl rfl rfl rfl (by decide +kernel) ((bad_ret hJ4 (!decide ((l.length : Int) = partsOf op)) 5).mono ?_))
      rintro v5 w5 ⟨rfl, hJ5, hk5⟩
      have hX5 := hk5.blk hX4 (by simpa using hxj)
      refine pl_nil ?_
      refine rn_seq ?_
      refine rn_with (fun σ' w' => ∃ c6, c6 = badC (!(op == 1 || nn == 0)) (badC (!decide ((l.length : Int) = partsOf op)) (badC (!knownE op) (badC (decide (n + 1 > 150)) (badC (decide ((deep : Int) > 12)) 0 4) 3) 2) 5) 5 ∧ Blk w' j (lkC (.slice av nv capv) b (n + 1) c6) tLk ∧ Blk w' x [.int .i64 op, .int .i64 v, .int .i64 nn, .slice al l.length capl] 70 ∧ Keep [j] w w' ∧ Sub [(0, .pointer (some ⟨j, 0, none⟩)), (2, .int .i64 (deep : Nat)), (4, .pointer (some ⟨x, 0, none⟩))] σ') ?_ ?_
      · rintro σ' w6 ⟨c6, hc6, hJ6, hX6, hk6, hsub⟩
        refine rn_sub hsub ?_
        refine rn_seq ?_
        refine rn_with (fun σ' w' => ∃ c7, c7 = varC nv v (namedE op) c6 ∧ Blk w' j (lkC (.slice av nv capv) b (n + 1) c7) tLk ∧ Blk w' x [.int .i64 op, .int .i64 v, .int .i64 nn, .slice al l.length capl] 70 ∧ Keep [j] w w' ∧ Sub [(0, .pointer (some ⟨j, 0, none⟩)), (2, .int .i64 (deep : Nat)), (4, .pointer (some ⟨x, 0, none⟩))] σ') ?_ ?_
        · rintro σ' w7 ⟨c7, hc7, hJ7, hX7, hk7, hsub⟩
          refine rn_sub hsub ?_
          have hck : c7 = lookK nv n (deep : Nat) (knownE op) (fitsE op nn l.length) (namedE op) v := by
            rw [hc7, hc6]
            exact look_chain nv n (deep : Nat) (knownE op) (decide ((l.length : Int) = partsOf op)) (op == 1 || nn == 0) (namedE op) v _ _ _ rfl (by cases decide ((l.length : Int) = partsOf op) <;> cases (op == 1 || nn == 0) <;> rfl)
          clear hc6 hc7 hJ1 hJ1' hJ2 hJ4 hJ5 hX1 hX2 hX4 hX5 hk2 hk4 hk5
          refine au ?_
          refine rn_ind (fun m σ w' => ∃ (i ni : Nat) (ci : Int), i ≤ l.length ∧ m = l.length - i ∧ σ = [(0, .pointer (some ⟨j, 0, none⟩)), (2, .int .i64 (deep : Nat)), (4, .pointer (some ⟨x, 0, none⟩)), (7, .int .i64 (i : Nat))] ∧ Blk w' j (lkC (.slice av nv capv) b ni ci) tLk ∧ Blk w' x [.int .i64 op, .int .i64 v, .int .i64 nn, .slice al l.length capl] 70 ∧ Keep [j] w w' ∧
            ni ≤ 151 ∧ ((ci = 0 ∧ c7 = 0 ∧ ni ≤ 150 ∧ chkEs nv (l.take i) (deep + 1) (n + 1) = .ok ni) ∨ (ci ≠ 0 ∧ chkE nv (.mk op v nn l) deep n = .error ci))) l.length _ ?_ ⟨0, n + 1, c7, by omega, by omega, rfl, hJ7, hX7, hk7, by omega, ?_⟩ ?_
          · exact ⟨rfl, rfl, rfl, rfl, trivial⟩
          · by_cases hz : c7 = 0
            · have := look_room (hck.symm.trans hz)
              exact .inl ⟨hz, hz, by omega, by simp [chkEs]⟩
            · refine .inr ⟨hz, ?_⟩
              rw [chkE_look, ← hck, if_pos hz]
          clear hJ7 hX7 hk7
          rintro m σ w8 ih2 ⟨i, ni, ci, hi, rfl, rfl, hJ8, hX8, hk8, hni, hor⟩
          have hJ8' := hJ8
          unfold lkC at hJ8'
          refine au ?_
          refine pl_val _ rfl rfl (val_load1 hT rfl rfl rfl (hX8.cell rfl)) ?_
          refine au ?_
          by_cases hlt : i < l.length
          · rcases hor with ⟨hci, hc70, hni150, hch⟩ | ⟨hci, hch⟩
            · subst hci
              have hroom := look_room (hck.symm.trans hc70)
              have hget : l[i]? = some l[i] := List.getElem?_eq_getElem hlt
              have hsz := szEs_at hget
              have hat := chkEs_at hget hch
              obtain ⟨bb, q, _, cj, hvv, _, hra, hcj⟩ := (hl.keep hk8 (stays_but hF hFj)).at hget
              cases hvv
              refine aub ?_
              refine pl_val _ rfl rfl (val_index i hT rfl rfl rfl rfl rfl hlt w8) ?_
              refine pl_val (.agg cj.toArray) rfl rfl (val_load cj hT rfl rfl (by rw [hcj.length]; rfl) hra) ?_
              refine au ?_
              refine pl_num (((deep + 1 : Nat) : Int)) rfl rfl rfl rfl rfl (by simp only [ariP]; omega) ?_
              refine pl_op rfl rfl (opTo_call rfl rfl rfl rfl (by decide +kernel) ((ih l[i] (by omega) (by omega) (deep + 1) ni 0 hcj (hF.keep hk8) hFj hJ8 (by omega) hni (fun _ => hni150)).mono ?_))
              rintro v9 w9 ⟨rfl, ⟨n9, c9, hJ9, htr9⟩, hk9⟩
              have hX9 := hk9.blk hX8 (by simpa using hxj)
              refine au ?_
              refine pl_num (((i + 1 : Nat) : Int)) rfl rfl rfl rfl rfl (by simp only [ariP]; omega) ?_
              refine au ?_
              refine rn_sub ?_ (ih2 (l.length - (i + 1)) [(0, .pointer (some ⟨j, 0, none⟩)), (2, .int .i64 (deep : Nat)), (4, .pointer (some ⟨x, 0, none⟩)), (7, .int .i64 ((i + 1 : Nat) : Int))] w9 (by omega)
                ⟨i + 1, n9, c9, by omega, rfl, rfl, hJ9, hX9, hk8.tr hk9, htr9.2.2.1, ?_⟩)
              · exact ⟨rfl, rfl, rfl, rfl, trivial⟩
              · have ht := htr9.2.1 rfl
                cases hx9 : chkE nv l[i] (deep + 1) ni with
                | ok q =>
                  obtain ⟨rfl, rfl⟩ := ht.1 q hx9
                  exact .inl ⟨rfl, hc70, htr9.2.2.2 rfl, by rw [hat.1, hx9]⟩
                | error e =>
                  have := ht.2 e hx9
                  subst this
                  refine .inr ⟨codedE nv _ _ _ _ hx9, ?_⟩
                  rw [chkE_look, ← hck, if_neg (by simp [hc70])]
                  exact hat.2 _ hx9
            · refine aub ?_
              refine rn_end Try.func82 (.inr (.inl ⟨rfl, rfl⟩)) ⟨rfl, ⟨ni, ci, hJ8, ?_⟩, hk8⟩
              exact ⟨fun h => absurd rfl h, fun _ => ⟨fun q hq => (by rw [hch] at hq; cases hq), fun e he => (by rw [hch] at he; injection he)⟩, hni, fun h => absurd h hci⟩
          · refine nay ?_
            refine au ?_
            refine rn_end Try.func82 (.inr (.inl ⟨rfl, rfl⟩)) ⟨rfl, ⟨ni, ci, hJ8, ?_⟩, hk8⟩
            rcases hor with ⟨hci, hc70, hni150, hch⟩ | ⟨hci, hch⟩
            · rw [List.take_of_length_le (by omega)] at hch
              have hE : chkE nv (.mk op v nn l) deep n = .ok ni := by rw [chkE_look, ← hck, if_neg (by simp [hc70])]; exact hch
              exact ⟨fun h => absurd rfl h, fun _ => ⟨fun q hq => (by rw [hE] at hq; injection hq with hq; exact ⟨hq, hci⟩), fun e he => (by rw [hE] at he; cases he)⟩, hni, fun _ => hni150⟩
            · exact ⟨fun h => absurd rfl h, fun _ => ⟨fun q hq => (by rw [hch] at hq; cases hq), fun e he => (by rw [hch] at he; injection he)⟩, hni, fun h => absurd h hci⟩
        · intro fin7
          by_cases h2 : op = 2
          · refine aub ?_
            refine pl_op rfl rfl (opTo_call rfl rfl rfl rfl (by decide +kernel) ((variable_ret hJ6 v true).mono ?_))
            rintro v7 w7 ⟨rfl, hJ7, hk7⟩
            refine pl_nil ?_
            exact fin7 _ _ ⟨_, by simp [namedE, h2], hJ7, hk7.blk hX6 (by simpa using hxj), hk6.tr hk7, rfl, rfl, rfl, trivial⟩
          · refine aub ?_
            refine pl_val (.bool (namedE op)) rfl rfl (val_int .i64 _ _ _ rfl rfl rfl (by simp [intOp, namedE, h2]) w6) ?_
            refine au ?_
            refine pl_op rfl rfl (opTo_call rfl rfl rfl rfl (by decide +kernel) ((variable_ret hJ6 v (namedE op)).mono ?_))
            rintro v7 w7 ⟨rfl, hJ7, hk7⟩
            refine pl_nil ?_
            exact fin7 _ _ ⟨_, rfl, hJ7, hk7.blk hX6 (by simpa using hxj), hk6.tr hk7, rfl, rfl, rfl, trivial⟩
      · intro fin6
        have hk5w : Keep [j] w w5 := (((Keep.of0 hk1).tr hk2).tr hk4).tr hk5
        by_cases h1 : op = 1
        · refine aub ?_
          refine pl_op rfl rfl (opTo_call rfl rfl rfl rfl (by decide +kernel) ((bad_ret hJ5 false 5).mono ?_))
          rintro v6 w6 ⟨rfl, hJ6, hk6⟩
          refine pl_nil ?_
          exact fin6 _ _ ⟨_, by simp [h1], hJ6, hk6.blk hX5 (by simpa using hxj), hk5w.tr hk6, rfl, rfl, rfl, trivial⟩
        · refine aub ?_
          refine pl_val (.bool (!(op == 1 || nn == 0))) rfl rfl (val_int .i64 _ _ _ rfl rfl rfl (by simp only [intOp]; congr 2; rw [Bool.eq_iff_iff]; simp [h1]) w5) ?_
          refine au ?_
          refine pl_op rfl rfl (opTo_call rfl rfl rfl rfl (by decide +kernel) ((bad_ret hJ5 (!(op == 1 || nn == 0)) 5).mono ?_))
          rintro v6 w6 ⟨rfl, hJ6, hk6⟩
          refine pl_nil ?_
          exact fin6 _ _ ⟨_, rfl, hJ6, hk6.blk hX5 (by simpa using hxj), hk5w.tr hk6, rfl, rfl, rfl, trivial⟩
    · refine ye ?_
      refine au ?_
      refine rn_ret Try.func82 (.inr (.inl ⟨rfl, rfl⟩)) ⟨rfl, ⟨n, c, hJ1, ?_⟩, Keep.of0 hk1⟩
      exact ⟨fun _ => ⟨rfl, rfl⟩, fun h => absurd h hc, hn, hn0⟩
end E
end Go.Proofs.Ytmdjgejahnmfmae
