/- A commit in memory; the contracts of its take, write and flush. -/
import Derived.Test.YtcnjmjdnlhiflabStoD
namespace Go.Proofs.Ytcnjmjdnlhiflab
set_option maxRecDepth 20000
namespace E
open Go.Proofs

/-- A deed: a write, or a flush. -/
abbrev Deed := Option (Int × List Int)

def ccells (s : Nat) (N : List Int) (K : List Bool) (dv : Value) : List Value := [Value.pointer (some ⟨s, 0, none⟩)] ++ ints N ++ (bools K ++ [dv])

/-- The types of what changes while a commit is made and done. -/
def mutT (e : Nat) : Bool := e == 86 || e == 1 || e == 73 || e == 104

/-- Blocks below B stay, and so do those of other types. -/
structure Tch (B : Nat) (w w' : World) : Prop where
  os : w'.os = w.os
  tape : w'.tape = w.tape
  output : w'.output = w.output
  size : w.heap.size ≤ w'.heap.size
  low : ∀ k, k < B → w'.heap[k]? = w.heap[k]?
  typ : ∀ k L e, Blk w k L e → mutT e = false → Blk w' k L e

theorem Tch.refl (B : Nat) (w : World) : Tch B w w := ⟨rfl, rfl, rfl, Nat.le_refl _, fun _ _ => rfl, fun _ _ _ h _ => h⟩
theorem Tch.trans {B : Nat} {w w' w'' : World} (h : Tch B w w') (h' : Tch B w' w'') : Tch B w w'' :=
  ⟨h'.os.trans h.os, h'.tape.trans h.tape, h'.output.trans h.output, Nat.le_trans h.size h'.size, fun k hk => (h'.low k hk).trans (h.low k hk), fun k L e hb he => h'.typ k L e (h.typ k L e hb he) he⟩
theorem Keep.tch {B : Nat} {w w' : World} {fp : List Nat} (h : Keep fp w w') (hB : B ≤ w.heap.size) (hf : ∀ k ∈ fp, B ≤ k ∧ ∀ L e, Blk w k L e → mutT e = true) : Tch B w w' :=
  ⟨h.os, h.tape, h.output, h.size, fun k hk => h.block k (Nat.lt_of_lt_of_le hk hB) fun hm => by have := (hf k hm).1; omega, fun k L e hb he => h.blk hb fun hm => by
    rw [(hf k hm).2 L e hb] at he; cases he⟩
theorem Keep.tch0 {B : Nat} {w w' : World} (h : Keep [] w w') (hB : B ≤ w.heap.size) : Tch B w w' := h.tch hB (by simp)
theorem Tch.keep {B : Nat} {w0 w w' : World} (h0 : Keep [] w0 w) (h : Tch B w w') (hB : w0.heap.size ≤ B) : Keep [] w0 w' :=
  ⟨h.os.trans h0.os, h.tape.trans h0.tape, h.output.trans h0.output, Nat.le_trans h0.size h.size, fun k hk _ => (h.low k (Nat.lt_of_lt_of_le hk hB)).trans (h0.block k hk (by simp))⟩

def DeedV (w : World) (c : Nat) (fv : Value) : Deed → Prop
  | none => ∃ x, fv = .func (.func 49) #[] #[.pointer (some ⟨x, 0, none⟩)] ∧ Blk w x [.pointer (some ⟨c, 0, none⟩)] 76
  | some (a, ws) => ∃ x y z, fv = .func (.func 51) #[] #[.pointer (some ⟨x, 0, none⟩), .pointer (some ⟨y, 0, none⟩), .pointer (some ⟨z, 0, none⟩)] ∧
      Blk w x [.pointer (some ⟨c, 0, none⟩)] 76 ∧ Blk w y [.int .i64 a] 2 ∧ Blk w z (ints ws) 37 ∧ ws.length = 8

theorem DeedV.tch {B : Nat} {w w' : World} {c : Nat} {fv : Value} {d : Deed} (h : DeedV w c fv d) (hk : Tch B w w') : DeedV w' c fv d := by
  cases d with
  | none =>
    obtain ⟨x, h1, h2⟩ := h
    exact ⟨x, h1, hk.typ _ _ _ h2 (by decide)⟩
  | some p =>
    obtain ⟨x, y, z, h1, h2, h3, h4, h5⟩ := h
    exact ⟨x, y, z, h1, hk.typ _ _ _ h2 (by decide), hk.typ _ _ _ h3 (by decide), hk.typ _ _ _ h4 (by decide), h5⟩
theorem DeedV.one {w : World} {c : Nat} {fv : Value} {d : Deed} (h : DeedV w c fv d) : fv.oneCell' = true := by
  cases d with
  | none => obtain ⟨x, rfl, _⟩ := h; rfl
  | some p => obtain ⟨x, y, z, rfl, _⟩ := h; rfl

def Fvs (w : World) (c : Nat) (fvs : List Value) (D : List Deed) : Prop := ∀ (j : Nat) (d : Deed), D[j]? = some d → ∃ fv, fvs[j]? = some fv ∧ DeedV w c fv d

structure ComV (B : Nat) (w : World) (c s : Nat) (N : List Int) (K : List Bool) (dv : Value) (fvs : List Value) (D : List Deed) : Prop where
  blk : Blk w c (ccells s N K dv) 86
  base : B ≤ c
  nlen : N.length = 17
  klen : K.length = 34
  own : Own w B 1 1 dv D.length fvs
  fs : Fvs w c fvs D

theorem Own.typ {w : World} {B e size n : Nat} {v : Value} {xs : List Value} (h : Own w B e size v n xs) : ∀ k ∈ v.ownBlock.toList, ∃ L, Blk w k L e := by
  intro k hk
  rcases h.2 with ⟨rfl, _⟩ | ⟨g, cap, cur, rfl, hb, hg, _⟩
  · simp [Value.ownBlock] at hk
  · simp [Value.ownBlock] at hk
    subst hk
    exact ⟨cur, hg⟩
theorem blk_typ {w : World} {k : Nat} {L L' : List Value} {e e' : TypeId} (h : Blk w k L e) (h' : Blk w k L' e') : e = e' := by
  by_cases he : e = e'
  · exact he
  · exact absurd rfl (Blk.ne h h' he)

theorem splice_mid (A M C vs : List Value) (i : Nat) (h : i + vs.length ≤ M.length) : splice (A ++ M ++ C) (A.length + i) vs = A ++ splice M i vs ++ C := by
  unfold splice
  have e1 : (A ++ M ++ C).take (A.length + i) = A ++ M.take i := by
    rw [List.append_assoc, List.take_length_add_append, List.take_append_of_le_length (by omega)]
  have e2 : (A ++ M ++ C).drop (A.length + i + vs.length) = M.drop (i + vs.length) ++ C := by
    rw [List.append_assoc, Nat.add_assoc, List.drop_length_add_append, List.drop_append_of_le_length (by omega)]
  rw [e1, e2]
  simp [List.append_assoc]

theorem splice_ints (l : List Int) (i : Nat) (x : Int) (h : i < l.length) : splice (ints l) i [.int .i64 x] = ints (l.set i x) := by
  rw [List.set_eq_take_append_cons_drop, if_pos h]
  simp [splice, ints, List.map_take, List.map_drop]

section
variable {B : Nat} {w w' : World} {c s : Nat} {N : List Int} {K : List Bool} {dv : Value} {fvs : List Value} {D : List Deed}

theorem ccells_length (hN : N.length = 17) (hK : K.length = 34) : (ccells s N K dv).length = 53 := by simp [ccells, ints_length, bools_length, hN, hK]
theorem ccells_setN (i : Nat) (x : Int) (h : i < N.length) : splice (ccells s N K dv) (1 + i) [.int .i64 x] = ccells s (N.set i x) K dv := by
  unfold ccells
  have := splice_mid [Value.pointer (some ⟨s, 0, none⟩)] (ints N) (bools K ++ [dv]) [.int .i64 x] i (by simp [ints_length]; omega)
  rw [splice_ints _ _ _ h] at this
  exact this
theorem ccells_setK (hN : N.length = 17) (i : Nat) (b : Bool) (h : i < K.length) : splice (ccells s N K dv) (18 + i) [.bool b] = ccells s N (K.set i b) dv := by
  unfold ccells
  have := splice_mid ([Value.pointer (some ⟨s, 0, none⟩)] ++ ints N) (bools K) [dv] [.bool b] i (by simp [bools_length]; omega)
  rw [splice_bools _ _ _ h] at this
  simpa [ints_length, hN, List.append_assoc] using this
theorem ccells_setD (hN : N.length = 17) (hK : K.length = 34) (dv' : Value) : splice (ccells s N K dv) 52 [dv'] = ccells s N K dv' := by
  unfold ccells
  have := splice_mid ([Value.pointer (some ⟨s, 0, none⟩)] ++ ints N ++ bools K) [dv] [] [dv'] 0 (by simp)
  have e : splice [dv] 0 [dv'] = [dv'] := rfl
  rw [e] at this
  simpa [ints_length, bools_length, hN, hK, List.append_assoc] using this

theorem ComV.cellS (h : ComV B w c s N K dv fvs D) : w.cell? ⟨c, 0, none⟩ = some (.pointer (some ⟨s, 0, none⟩)) := h.blk.cell rfl
theorem ComV.cellN (h : ComV B w c s N K dv fvs D) {i : Nat} {x : Int} (hx : N[i]? = some x) : w.cell? ⟨c, 1 + i, none⟩ = some (.int .i64 x) := h.blk.cell (by
  have hlt : i < N.length := (List.getElem?_eq_some_iff.1 hx).1
  have hx2 := (List.getElem?_eq_some_iff.1 hx).2
  simp only [ccells]
  rw [List.getElem?_append_left (by simp [ints_length]; omega), List.getElem?_append_right (by simp)]
  simp [ints, hx])
theorem ComV.cellK (h : ComV B w c s N K dv fvs D) {i : Nat} {x : Bool} (hx : K[i]? = some x) : w.cell? ⟨c, 18 + i, none⟩ = some (.bool x) := h.blk.cell (by
  have hlt : i < K.length := (List.getElem?_eq_some_iff.1 hx).1
  simp only [ccells]
  rw [List.getElem?_append_right (by simp [ints_length, h.nlen]), List.getElem?_append_left (by simp [ints_length, bools_length, h.nlen]; omega)]
  simp [ints_length, h.nlen, bools, hx])
theorem ComV.cellD (h : ComV B w c s N K dv fvs D) : w.cell? ⟨c, 52, none⟩ = some dv := h.blk.cell (by
  simp only [ccells]
  rw [List.getElem?_append_right (by simp [ints_length, h.nlen]), List.getElem?_append_right (by simp [ints_length, bools_length, h.nlen, h.klen])]
  simp [ints_length, bools_length, h.nlen, h.klen])
theorem ComV.rangeN (h : ComV B w c s N K dv fvs D) (i m : Nat) (him : i + m ≤ 17) : w.rangeAt c (1 + i) (ints ((N.drop i).take m)) := h.blk.range (by
  have h17 := h.nlen
  rw [ints_length, List.length_take, List.length_drop, h17, Nat.min_eq_left (by omega)]
  simp only [ccells]
  rw [List.drop_append_of_le_length (by simp [ints_length, h17]; omega), List.take_append_of_le_length (by simp [ints_length, h17]; omega), Nat.add_comm 1 i]
  simp [ints, List.map_take, List.map_drop])

theorem ComV.notDv (h : ComV B w c s N K dv fvs D) : ∀ k, dv.ownBlock = some k → k ≠ c := fun k hk e => by
  obtain ⟨L, hL⟩ := h.own.typ k (by simp [hk])
  subst e
  exact absurd (blk_typ hL h.blk) (by decide)

/-- What does not turn the commit leaves it as it is. -/
theorem ComV.keep {fp : List Nat} (h : ComV B w c s N K dv fvs D) (hk : Keep fp w w') (hf : ∀ k ∈ fp, ∀ L e, Blk w k L e → e = 73 ∨ e = 104) : ComV B w' c s N K dv fvs D := by
  refine ⟨hk.blk h.blk fun hm => ?_, h.base, h.nlen, h.klen, h.own.keep hk fun k e hm => ?_, fun j d hd => ?_⟩
  · have := hf c hm _ _ h.blk
    revert this; decide
  · obtain ⟨L, hL⟩ := h.own.typ k (by simp [e])
    have := hf k hm _ _ hL
    revert this; decide
  · obtain ⟨fv, h1, h2⟩ := h.fs j d hd
    refine ⟨fv, h1, ?_⟩
    have ht : Tch 0 w w' := hk.tch (Nat.zero_le _) fun k hm => ⟨Nat.zero_le _, fun L e hb => by
      rcases hf k hm L e hb with rfl | rfl <;> decide⟩
    exact h2.tch ht
theorem ComV.keep0 (h : ComV B w c s N K dv fvs D) (hk : Keep [] w w') : ComV B w' c s N K dv fvs D := h.keep hk (by simp)

/-- Another state, other sectors that are taken. -/
theorem ComV.put (h : ComV B w c s N K dv fvs D) (N' : List Int) (K' : List Bool) (hN : N'.length = 17) (hK : K'.length = 34) :
    ComV B (w.setRow c (ccells s N' K' dv).toArray) c s N' K' dv fvs D ∧ Tch B w (w.setRow c (ccells s N' K' dv).toArray) ∧ Keep [c] w (w.setRow c (ccells s N' K' dv).toArray) := by
  have hk : Keep [c] w (w.setRow c (ccells s N' K' dv).toArray) := (Keep.refl _ _).setRow _ _ (.inl (by simp))
  have hB : B ≤ w.heap.size := Nat.le_trans h.base (Nat.le_of_lt h.blk.lt)
  have ht : Tch B w (w.setRow c (ccells s N' K' dv).toArray) := hk.tch hB fun k hm => by
    simp at hm
    subst hm
    exact ⟨h.base, fun L e hb => by rw [blk_typ hb h.blk]; decide⟩
  refine ⟨⟨h.blk.set _, h.base, hN, hK, h.own.keep hk fun k e => by simpa using h.notDv k e, fun j d hd => ?_⟩, ht, hk⟩
  obtain ⟨fv, h1, h2⟩ := h.fs j d hd
  exact ⟨fv, h1, h2.tch ht⟩
end

def takeK (K : List Bool) (a : Int) : List Bool := if hasB a then K.set a.toNat true else K
theorem takeK_length (K : List Bool) (a : Int) : (takeK K a).length = K.length := by unfold takeK; split <;> simp

theorem take_ret {B : Nat} {w : World} {c s : Nat} {N : List Int} {K : List Bool} {dv : Value} {fvs : List Value} {D : List Deed} (h : ComV B w c s N K dv fvs D) (a : Int) :
    Ret Try.prog 46 [.pointer (some ⟨c, 0, none⟩), .int .i64 a] w fun v w' => v = .tuple #[] ∧ ComV B w' c s N (takeK K a) dv fvs D ∧ Tch B w w' := by
  refine ret_of 11 Try.func46 rfl rfl (by simp) ?_
  repeat (first | refine pl_pure hT rfl rfl rfl ?_ | refine pl_nil ?_ | refine rn_seq ?_ | refine rn_plain ?_ | refine rn_block ?_ | refine rn_inBlock ?_ | refine rn_skip ?_ | refine rn_true rfl ?_ | refine rn_false rfl ?_ | refine rn_exit rfl ?_ | refine pl_not rfl rfl ?_)
  refine pl_op rfl rfl (opTo_call rfl rfl rfl rfl (by decide +kernel) ((has_ret a _).mono ?_))
  rintro v w1 ⟨rfl, rfl⟩
  cases hb : hasB a with
  | false =>
    repeat (first | refine pl_pure hT rfl rfl rfl ?_ | refine pl_nil ?_ | refine rn_seq ?_ | refine rn_plain ?_ | refine rn_block ?_ | refine rn_inBlock ?_ | refine rn_skip ?_ | refine rn_true rfl ?_ | refine rn_false rfl ?_ | refine rn_exit rfl ?_ | refine pl_not rfl rfl ?_)
    exact rn_end Try.func46 (.inr (.inl ⟨rfl, rfl⟩)) ⟨rfl, by rw [takeK, hb]; exact h, Tch.refl _ _⟩
  | true =>
    have hi : 0 ≤ a ∧ a < 34 := by simpa [hasB] using hb
    repeat (first | refine pl_pure hT rfl rfl rfl ?_ | refine pl_nil ?_ | refine rn_seq ?_ | refine rn_plain ?_ | refine rn_block ?_ | refine rn_inBlock ?_ | refine rn_skip ?_ | refine rn_true rfl ?_ | refine rn_false rfl ?_ | refine rn_exit rfl ?_ | refine pl_not rfl rfl ?_)
    refine pl_val _ rfl rfl (val_indexArr a.toNat hT rfl rfl rfl rfl (by omega) (by omega) w1) ?_
    refine pl_op rfl rfl (opTo_store [.bool true] rfl rfl rfl rfl (by decide +kernel) h.blk (by rw [ccells_length h.nlen h.klen]; simp; omega) (by simp; rfl) ?_)
    have e : splice (ccells s N K dv) (0 + 18 + a.toNat * 1) [.bool true] = ccells s N (takeK K a) dv := by
      rw [Nat.zero_add, Nat.mul_one, ccells_setK h.nlen _ _ (by rw [h.klen]; omega), takeK, hb]
      rfl
    rw [e]
    repeat (first | refine pl_pure hT rfl rfl rfl ?_ | refine pl_nil ?_ | refine rn_seq ?_ | refine rn_plain ?_ | refine rn_block ?_ | refine rn_inBlock ?_ | refine rn_skip ?_ | refine rn_true rfl ?_ | refine rn_false rfl ?_ | refine rn_exit rfl ?_ | refine pl_not rfl rfl ?_)
    obtain ⟨h1, h2, _⟩ := h.put N (takeK K a) h.nlen (by rw [takeK_length, h.klen])
    exact rn_end Try.func46 (.inr (.inl ⟨rfl, rfl⟩)) ⟨rfl, h1, h2⟩
end E
end Go.Proofs.Ytcnjmjdnlhiflab
