/- What a call leaves alone, told by the blocks' numbers and types; pairs of lists that wait, and the keys of those that ever did. -/
import Derived.Test.YtpbdjpoohpocfabGrowO
import Derived.Test.YtpbdjpoohpocfabMapO
namespace Go.Proofs.Ytpbdjpoohpocfab
set_option maxRecDepth 20000
set_option maxHeartbeats 4000000
namespace E

/-- Of the blocks that lay in w, from B on, none has turned but those of X, and rows of Ts. -/
structure Tw (B : Nat) (X Ts : List Nat) (w w' : World) : Prop where
  os : w'.os = w.os
  tape : w'.tape = w.tape
  output : w'.output = w.output
  size : w.heap.size ≤ w'.heap.size
  block : ∀ k, k < w.heap.size → (k < B ∨ (k ∉ X ∧ ∀ L e, Blk w k L e → e ∉ Ts)) → w'.heap[k]? = w.heap[k]?
section
variable {B : Nat} {X X' Ts Ts' : List Nat} {w w' w'' : World}
theorem Tw.refl (B : Nat) (X Ts : List Nat) (w : World) : Tw B X Ts w w := ⟨rfl, rfl, rfl, Nat.le_refl _, fun _ _ _ => rfl⟩
theorem Tw.of (h : Keep [] w w') : Tw B X Ts w w' := ⟨h.os, h.tape, h.output, h.size, fun k hk _ => h.block k hk (by simp)⟩
theorem Tw.of1 {g : Nat} (h : Keep [g] w w') (hB : B ≤ g) (hg : g ∈ X ∨ ∃ L e, Blk w g L e ∧ e ∈ Ts) : Tw B X Ts w w' := ⟨h.os, h.tape, h.output, h.size, fun k hk hn => h.block k hk (by
  simp
  rintro rfl
  rcases hn with hn | ⟨h1, h2⟩
  · omega
  · rcases hg with hg | ⟨L, e, hb, he⟩
    · exact h1 hg
    · exact h2 L e hb he)⟩
theorem Tw.trans (h : Tw B X Ts w w') (h' : Tw B X Ts w' w'') : Tw B X Ts w w'' := ⟨h'.os.trans h.os, h'.tape.trans h.tape, h'.output.trans h.output, Nat.le_trans h.size h'.size, fun k hk hn => by
  have e := h.block k hk hn
  rw [h'.block k (Nat.lt_of_lt_of_le hk h.size) (hn.imp id fun ⟨h1, h2⟩ => ⟨h1, fun L t hb => h2 L t (by unfold Blk at *; rw [← e]; exact hb)⟩), e]⟩
theorem Tw.mono (h : Tw B X Ts w w') (hX : ∀ k ∈ X, k ∈ X') (hT : ∀ k ∈ Ts, k ∈ Ts') : Tw B X' Ts' w w' := ⟨h.os, h.tape, h.output, h.size, fun k hk hn => h.block k hk (hn.imp id fun ⟨h1, h2⟩ => ⟨fun hx => h1 (hX k hx), fun L e hb he => h2 L e hb (hT e he)⟩)⟩
theorem Tw.blk (h : Tw B X Ts w w') {k : Nat} {L : List Value} {e : TypeId} (hb : Blk w k L e) (hk : k ∉ X) (he : e ∉ Ts) : Blk w' k L e :=
  (h.block k hb.lt (.inr ⟨hk, fun L' e' hb' => by
    unfold Blk at hb hb'
    rw [hb] at hb'
    simp at hb'
    rw [← hb'.2]
    exact he⟩)).trans hb
theorem Tw.keep {w0 : World} (h : Tw w0.heap.size X Ts w w') (hk : Keep [] w0 w) : Keep [] w0 w' := ⟨h.os.trans hk.os, h.tape.trans hk.tape, h.output.trans hk.output, Nat.le_trans hk.size h.size, fun k hl _ => (h.block k (Nat.lt_of_lt_of_le hl hk.size) (.inl hl)).trans (hk.block k hl (by simp))⟩
end

theorem not_map {w : World} {k m : Nat} {L : List Value} {e : TypeId} {es : Array MapEntry} {c : Nat} (hb : Blk w k L e) (hm : w.heap[m]? = some (.map es c)) : k ≠ m := fun h => by
  subst h
  unfold Blk at hb
  rw [hb] at hm
  cases hm

/-- What waits, and where it was from. -/
structure St (tP tT : Nat) (w : World) (B x m : Nat) (M : List Nat) (V : List (Value × Value)) : Prop where
  bx : B ≤ x
  bm : B ≤ m
  blk : ∃ rv, Blk w x [rv, .map (some m)] tP ∧ Own w B tT 2 rv V.length (V.flatMap fun p => [p.1, p.2])
  map : ∃ es clock, w.heap[m]? = some (.map es clock) ∧ KeysIn M es.toList

theorem St.turn {tP tT : Nat} {w w' : World} {B x m : Nat} {M : List Nat} {V : List (Value × Value)} {X Ts : List Nat} (h : St tP tT w B x m M V) (ht : Tw B X Ts w w') (hx : x ∉ X) (hm : m ∉ X) (hP : tP ∉ Ts) (hT : tT ∉ Ts) (hr : ∀ k L, Blk w k L tT → k ∉ X) : St tP tT w' B x m M V := by
  obtain ⟨rv, hb, ho⟩ := h.blk
  obtain ⟨es, c, hm', hk⟩ := h.map
  refine ⟨h.bx, h.bm, ⟨rv, ht.blk hb hx hP, ho.1, ?_⟩, ⟨es, c, ?_, hk⟩⟩
  · rcases ho.2 with h0 | ⟨g, cap, cur, rfl, hB, hg, r⟩
    · exact .inl h0
    · exact .inr ⟨g, cap, cur, rfl, hB, ht.blk hg (hr g _ hg) hT, r⟩
  · rw [ht.block m (Array.getElem?_eq_some_iff.1 hm').1 (.inr ⟨hm, fun L e hb => absurd rfl (not_map hb hm')⟩)]
    exact hm'
theorem St.keep {tP tT : Nat} {w w' : World} {B x m : Nat} {M : List Nat} {V : List (Value × Value)} (h : St tP tT w B x m M V) (hk : Keep [] w w') : St tP tT w' B x m M V :=
  h.turn (X := []) (Ts := []) (Tw.of hk) (by simp) (by simp) (by simp) (by simp) (by simp)

/-- Two lists of expressions, of one length, that wait. -/
structure PE where
  ga : Nat
  la : List AE
  xa : Value
  xb : Value
  lb : List ET
structure PS where
  ga : Nat
  la : List AS
  xa : Value
  xb : Value
  lb : List ST
def PE.vals (p : PE) : Value × Value := (p.xa, p.xb)
def PS.vals (p : PS) : Value × Value := (p.xa, p.xb)
def PE.ok (p : PE) : Bool := eqEs (erEs p.la) p.lb
def PS.ok (p : PS) : Bool := eqSs (erSs p.la) p.lb
structure ValidE (F : Nat → Prop) (w : World) (p : PE) : Prop where
  a : AExprsV w p.xa p.ga p.la
  b : ExprsV F w p.xb p.lb
  len : p.la.length = p.lb.length
  pos : 0 < p.la.length
structure ValidS (F : Nat → Prop) (w : World) (p : PS) : Prop where
  a : AStmtsV w p.xa p.ga p.la
  b : StmtsV F w p.xb p.lb
  len : p.la.length = p.lb.length
  pos : 0 < p.la.length
def sumE (b : Nat) : List PE → Nat
  | [] => 0
  | p :: r => cEs b p.la + sumE b r
def sumX (b : Nat) : List PS → Nat
  | [] => 0
  | p :: r => xSs b p.la + sumX b r
def sumS (b : Nat) : List PS → Nat
  | [] => 0
  | p :: r => sSs b p.la + sumS b r
def mE : List PE → Nat
  | [] => 0
  | p :: r => szEs (erEs p.la) + mE r
def mS : List PS → Nat
  | [] => 0
  | p :: r => szSs (erSs p.la) + mS r
theorem sumE_append (b : Nat) : ∀ a c, sumE b (a ++ c) = sumE b a + sumE b c
  | [], c => by simp [sumE]
  | t :: r, c => by simp only [List.cons_append, sumE, sumE_append b r c]; omega
theorem sumX_append (b : Nat) : ∀ a c, sumX b (a ++ c) = sumX b a + sumX b c
  | [], c => by simp [sumX]
  | t :: r, c => by simp only [List.cons_append, sumX, sumX_append b r c]; omega
theorem sumS_append (b : Nat) : ∀ a c, sumS b (a ++ c) = sumS b a + sumS b c
  | [], c => by simp [sumS]
  | t :: r, c => by simp only [List.cons_append, sumS, sumS_append b r c]; omega
theorem mE_append : ∀ a c, mE (a ++ c) = mE a + mE c
  | [], c => by simp [mE]
  | t :: r, c => by simp only [List.cons_append, mE, mE_append r c]; omega
theorem mS_append : ∀ a c, mS (a ++ c) = mS a + mS c
  | [], c => by simp [mS]
  | t :: r, c => by simp only [List.cons_append, mS, mS_append r c]; omega
theorem mE_len {F : Nat → Prop} {w : World} : ∀ {P : List PE}, (∀ p ∈ P, ValidE F w p) → P.length ≤ mE P
  | [], _ => by simp
  | p :: r, h => by
    have := mE_len (P := r) fun q hq => h q (by simp [hq])
    have h1 := (h p (by simp)).pos
    have h2 := szEs_len (erEs p.la)
    rw [erEs_length] at h2
    simp only [List.length_cons, mE]
    omega
theorem mS_len {F : Nat → Prop} {w : World} : ∀ {P : List PS}, (∀ p ∈ P, ValidS F w p) → P.length ≤ mS P
  | [], _ => by simp
  | p :: r, h => by
    have := mS_len (P := r) fun q hq => h q (by simp [hq])
    have h1 := (h p (by simp)).pos
    have h2 := szSs_len (erSs p.la)
    rw [erSs_length] at h2
    simp only [List.length_cons, mS]
    omega
end E
end Go.Proofs.Ytpbdjpoohpocfab
