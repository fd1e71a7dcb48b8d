/- Several texts in one: StoE, StoF, StoG, StoH, StoI. -/
import Derived.Test.YtmplkogkphmmjafGreatJ10
/- A commit in memory; the contracts of its take, write and flush. -/
namespace Go.Proofs.YtmplkogkphmmjafGreat
set_option maxRecDepth 20000
set_option maxHeartbeats 4000000
namespace E
open Go.Proofs

/-- A deed: a write, or a flush. -/
abbrev Deed := Option (Int × List Int)

def ccells (s : Nat) (N : List Int) (K : List Bool) (dv : Value) : List Value := [Value.pointer (some ⟨s, 0, none⟩)] ++ ints N ++ (bools K ++ [dv])

/-- The types of what changes while a commit is made and done. -/
def mutT (e : Nat) : Bool := e == 209 || e == 1 || e == 113 || e == 184

/-- Blocks below B stay, and so do those of other types. -/
structure Tch (B : Nat) (w w' : World) : Prop where
  os : w'.os = w.os
  tape : w'.tape = w.tape
  output : w'.output = w.output
  size : w.heap.size ≤ w'.heap.size
  low : ∀ k, k < B → w'.heap[k]? = w.heap[k]?
  typ : ∀ k L e, Blk w k L e → mutT e = false → Blk w' k L e

theorem Tch.refl (B : Nat) (w : World) : Tch B w w := ⟨rfl, rfl, rfl, Nat.le_refl _, fun _ _ => rfl, fun _ _ _ h _ => h⟩
theorem Tch.trans {B : Nat} {w w' w'' : World} (h : Tch B w w') (h' : Tch B w' w'') : Tch B w w'' :=
  ⟨h'.os.trans h.os, h'.tape.trans h.tape, h'.output.trans h.output, Nat.le_trans h.size h'.size, fun k hk => (h'.low k hk).trans (h.low k hk), fun k L e hb he => h'.typ k L e (h.typ k L e hb he) he⟩
theorem Keep.tch {B : Nat} {w w' : World} {fp : List Nat} (h : Keep fp w w') (hB : B ≤ w.heap.size) (hf : ∀ k ∈ fp, B ≤ k ∧ ∀ L e, Blk w k L e → mutT e = true) : Tch B w w' :=
  ⟨h.os, h.tape, h.output, h.size, fun k hk => h.block k (Nat.lt_of_lt_of_le hk hB) fun hm => by have := (hf k hm).1; omega, fun k L e hb he => h.blk hb fun hm => by
    rw [(hf k hm).2 L e hb] at he; cases he⟩
theorem Keep.tch0 {B : Nat} {w w' : World} (h : Keep [] w w') (hB : B ≤ w.heap.size) : Tch B w w' := h.tch hB (by simp)
theorem Tch.keep {B : Nat} {w0 w w' : World} (h0 : Keep [] w0 w) (h : Tch B w w') (hB : w0.heap.size ≤ B) : Keep [] w0 w' :=
  ⟨h.os.trans h0.os, h.tape.trans h0.tape, h.output.trans h0.output, Nat.le_trans h0.size h.size, fun k hk _ => (h.low k (Nat.lt_of_lt_of_le hk hB)).trans (h0.block k hk (by simp))⟩

def DeedV (w : World) (c : Nat) (fv : Value) : Deed → Prop
  | none => ∃ x, fv = .func (.func 154) #[] #[.pointer (some ⟨x, 0, none⟩)] ∧ Blk w x [.pointer (some ⟨c, 0, none⟩)] 201
  | some (a, ws) => ∃ x y z, fv = .func (.func 156) #[] #[.pointer (some ⟨x, 0, none⟩), .pointer (some ⟨y, 0, none⟩), .pointer (some ⟨z, 0, none⟩)] ∧
      Blk w x [.pointer (some ⟨c, 0, none⟩)] 201 ∧ Blk w y [.int .i64 a] 2 ∧ Blk w z (ints ws) 109 ∧ ws.length = 8

theorem DeedV.tch {B : Nat} {w w' : World} {c : Nat} {fv : Value} {d : Deed} (h : DeedV w c fv d) (hk : Tch B w w') : DeedV w' c fv d := by
  cases d with
  | none =>
    obtain ⟨x, h1, h2⟩ := h
    exact ⟨x, h1, hk.typ _ _ _ h2 (by decide)⟩
  | some p =>
    obtain ⟨x, y, z, h1, h2, h3, h4, h5⟩ := h
    exact ⟨x, y, z, h1, hk.typ _ _ _ h2 (by decide), hk.typ _ _ _ h3 (by decide), hk.typ _ _ _ h4 (by decide), h5⟩
theorem DeedV.one {w : World} {c : Nat} {fv : Value} {d : Deed} (h : DeedV w c fv d) : fv.oneCell' = true := by
  cases d with
  | none => obtain ⟨x, rfl, _⟩ := h; rfl
  | some p => obtain ⟨x, y, z, rfl, _⟩ := h; rfl

def Fvs (w : World) (c : Nat) (fvs : List Value) (D : List Deed) : Prop := ∀ (j : Nat) (d : Deed), D[j]? = some d → ∃ fv, fvs[j]? = some fv ∧ DeedV w c fv d

structure ComV (B : Nat) (w : World) (c s : Nat) (N : List Int) (K : List Bool) (dv : Value) (fvs : List Value) (D : List Deed) : Prop where
  blk : Blk w c (ccells s N K dv) 209
  base : B ≤ c
  nlen : N.length = 17
  klen : K.length = 34
  own : Own w B 1 1 dv D.length fvs
  fs : Fvs w c fvs D

theorem Own.typ {w : World} {B e size n : Nat} {v : Value} {xs : List Value} (h : Own w B e size v n xs) : ∀ k ∈ v.ownBlock.toList, ∃ L, Blk w k L e := by
  intro k hk
  rcases h.2 with ⟨rfl, _⟩ | ⟨g, cap, cur, rfl, hb, hg, _⟩
  · simp [Value.ownBlock] at hk
  · simp [Value.ownBlock] at hk
    subst hk
    exact ⟨cur, hg⟩
theorem blk_typ {w : World} {k : Nat} {L L' : List Value} {e e' : TypeId} (h : Blk w k L e) (h' : Blk w k L' e') : e = e' := by
  by_cases he : e = e'
  · exact he
  · exact absurd rfl (Blk.ne h h' he)

theorem splice_mid (A M C vs : List Value) (i : Nat) (h : i + vs.length ≤ M.length) : splice (A ++ M ++ C) (A.length + i) vs = A ++ splice M i vs ++ C := by
  unfold splice
  have e1 : (A ++ M ++ C).take (A.length + i) = A ++ M.take i := by
    rw [List.append_assoc, List.take_length_add_append, List.take_append_of_le_length (by omega)]
  have e2 : (A ++ M ++ C).drop (A.length + i + vs.length) = M.drop (i + vs.length) ++ C := by
    rw [List.append_assoc, Nat.add_assoc, List.drop_length_add_append, List.drop_append_of_le_length (by omega)]
  rw [e1, e2]
  simp [List.append_assoc]

theorem splice_ints (l : List Int) (i : Nat) (x : Int) (h : i < l.length) : splice (ints l) i [.int .i64 x] = ints (l.set i x) := by
  rw [List.set_eq_take_append_cons_drop, if_pos h]
  simp [splice, ints, List.map_take, List.map_drop]

section
variable {B : Nat} {w w' : World} {c s : Nat} {N : List Int} {K : List Bool} {dv : Value} {fvs : List Value} {D : List Deed}

theorem ccells_length (hN : N.length = 17) (hK : K.length = 34) : (ccells s N K dv).length = 53 := by simp [ccells, ints_length, bools_length, hN, hK]
theorem ccells_setN (i : Nat) (x : Int) (h : i < N.length) : splice (ccells s N K dv) (1 + i) [.int .i64 x] = ccells s (N.set i x) K dv := by
  unfold ccells
  have := splice_mid [Value.pointer (some ⟨s, 0, none⟩)] (ints N) (bools K ++ [dv]) [.int .i64 x] i (by simp [ints_length]; omega)
  rw [splice_ints _ _ _ h] at this
  exact this
theorem ccells_setK (hN : N.length = 17) (i : Nat) (b : Bool) (h : i < K.length) : splice (ccells s N K dv) (18 + i) [.bool b] = ccells s N (K.set i b) dv := by
  unfold ccells
  have := splice_mid ([Value.pointer (some ⟨s, 0, none⟩)] ++ ints N) (bools K) [dv] [.bool b] i (by simp [bools_length]; omega)
  rw [splice_bools _ _ _ h] at this
  simpa [ints_length, hN, List.append_assoc] using this
theorem ccells_setD (hN : N.length = 17) (hK : K.length = 34) (dv' : Value) : splice (ccells s N K dv) 52 [dv'] = ccells s N K dv' := by
  unfold ccells
  have := splice_mid ([Value.pointer (some ⟨s, 0, none⟩)] ++ ints N ++ bools K) [dv] [] [dv'] 0 (by simp)
  have e : splice [dv] 0 [dv'] = [dv'] := rfl
  rw [e] at this
  simpa [ints_length, bools_length, hN, hK, List.append_assoc] using this

theorem ComV.cellS (h : ComV B w c s N K dv fvs D) : w.cell? ⟨c, 0, none⟩ = some (.pointer (some ⟨s, 0, none⟩)) := h.blk.cell rfl
theorem ComV.cellN (h : ComV B w c s N K dv fvs D) {i : Nat} {x : Int} (hx : N[i]? = some x) : w.cell? ⟨c, 1 + i, none⟩ = some (.int .i64 x) := h.blk.cell (by
  have hlt : i < N.length := (List.getElem?_eq_some_iff.1 hx).1
  have hx2 := (List.getElem?_eq_some_iff.1 hx).2
  simp only [ccells]
  rw [List.getElem?_append_left (by simp [ints_length]; omega), List.getElem?_append_right (by simp)]
  simp [ints, hx])
theorem ComV.cellK (h : ComV B w c s N K dv fvs D) {i : Nat} {x : Bool} (hx : K[i]? = some x) : w.cell? ⟨c, 18 + i, none⟩ = some (.bool x) := h.blk.cell (by
  have hlt : i < K.length := (List.getElem?_eq_some_iff.1 hx).1
  simp only [ccells]
  rw [List.getElem?_append_right (by simp [ints_length, h.nlen]), List.getElem?_append_left (by simp [ints_length, bools_length, h.nlen]; omega)]
  simp [ints_length, h.nlen, bools, hx])
theorem ComV.cellD (h : ComV B w c s N K dv fvs D) : w.cell? ⟨c, 52, none⟩ = some dv := h.blk.cell (by
  simp only [ccells]
  rw [List.getElem?_append_right (by simp [ints_length, h.nlen]), List.getElem?_append_right (by simp [ints_length, bools_length, h.nlen, h.klen])]
  simp [ints_length, bools_length, h.nlen, h.klen])
theorem ComV.rangeN (h : ComV B w c s N K dv fvs D) (i m : Nat) (him : i + m ≤ 17) : w.rangeAt c (1 + i) (ints ((N.drop i).take m)) := h.blk.range (by
  have h17 := h.nlen
  rw [ints_length, List.length_take, List.length_drop, h17, Nat.min_eq_left (by omega)]
  simp only [ccells]
  rw [List.drop_append_of_le_length (by simp [ints_length, h17]; omega), List.take_append_of_le_length (by simp [ints_length, h17]; omega), Nat.add_comm 1 i]
  simp [ints, List.map_take, List.map_drop])

theorem ComV.notDv (h : ComV B w c s N K dv fvs D) : ∀ k, dv.ownBlock = some k → k ≠ c := fun k hk e => by
  obtain ⟨L, hL⟩ := h.own.typ k (by simp [hk])
  subst e
  exact absurd (blk_typ hL h.blk) (by decide)

/-- What does not turn the commit leaves it as it is. -/
theorem ComV.keep {fp : List Nat} (h : ComV B w c s N K dv fvs D) (hk : Keep fp w w') (hf : ∀ k ∈ fp, ∀ L e, Blk w k L e → e = 113 ∨ e = 184) : ComV B w' c s N K dv fvs D := by
  refine ⟨hk.blk h.blk fun hm => ?_, h.base, h.nlen, h.klen, h.own.keep hk fun k e hm => ?_, fun j d hd => ?_⟩
  · have := hf c hm _ _ h.blk
    revert this; decide
  · obtain ⟨L, hL⟩ := h.own.typ k (by simp [e])
    have := hf k hm _ _ hL
    revert this; decide
  · obtain ⟨fv, h1, h2⟩ := h.fs j d hd
    refine ⟨fv, h1, ?_⟩
    have ht : Tch 0 w w' := hk.tch (Nat.zero_le _) fun k hm => ⟨Nat.zero_le _, fun L e hb => by
      rcases hf k hm L e hb with rfl | rfl <;> decide⟩
    exact h2.tch ht
theorem ComV.keep0 (h : ComV B w c s N K dv fvs D) (hk : Keep [] w w') : ComV B w' c s N K dv fvs D := h.keep hk (by simp)

/-- Another state, other sectors that are taken. -/
theorem ComV.put (h : ComV B w c s N K dv fvs D) (N' : List Int) (K' : List Bool) (hN : N'.length = 17) (hK : K'.length = 34) :
    ComV B (w.setRow c (ccells s N' K' dv).toArray) c s N' K' dv fvs D ∧ Tch B w (w.setRow c (ccells s N' K' dv).toArray) ∧ Keep [c] w (w.setRow c (ccells s N' K' dv).toArray) := by
  have hk : Keep [c] w (w.setRow c (ccells s N' K' dv).toArray) := (Keep.refl _ _).setRow _ _ (.inl (by simp))
  have hB : B ≤ w.heap.size := Nat.le_trans h.base (Nat.le_of_lt h.blk.lt)
  have ht : Tch B w (w.setRow c (ccells s N' K' dv).toArray) := hk.tch hB fun k hm => by
    simp at hm
    subst hm
    exact ⟨h.base, fun L e hb => by rw [blk_typ hb h.blk]; decide⟩
  refine ⟨⟨h.blk.set _, h.base, hN, hK, h.own.keep hk fun k e => by simpa using h.notDv k e, fun j d hd => ?_⟩, ht, hk⟩
  obtain ⟨fv, h1, h2⟩ := h.fs j d hd
  exact ⟨fv, h1, h2.tch ht⟩
end

def takeK (K : List Bool) (a : Int) : List Bool := if hasB a then K.set a.toNat true else K
theorem takeK_length (K : List Bool) (a : Int) : (takeK K a).length = K.length := by unfold takeK; split <;> simp

theorem take_ret {B : Nat} {w : World} {c s : Nat} {N : List Int} {K : List Bool} {dv : Value} {fvs : List Value} {D : List Deed} (h : ComV B w c s N K dv fvs D) (a : Int) :
    Ret Tryz.prog 151 [.pointer (some ⟨c, 0, none⟩), .int .i64 a] w fun v w' => v = .tuple #[] ∧ ComV B w' c s N (takeK K a) dv fvs D ∧ Tch B w w' := by
  refine ret_of 11 Tryz.func151 rfl rfl (by simp) ?_
  refine au ?_
  refine pl_op rfl rfl (opTo_call rfl rfl rfl rfl (by decide +kernel) ((dHas_ret a _).mono ?_))
  rintro v w1 ⟨rfl, rfl⟩
  cases hb : hasB a with
  | false =>
    refine au ?_
    exact rn_end Tryz.func151 (.inr (.inl ⟨rfl, rfl⟩)) ⟨rfl, by rw [takeK, hb]; exact h, Tch.refl _ _⟩
  | true =>
    have hi : 0 ≤ a ∧ a < 34 := by simpa [hasB] using hb
    refine au ?_
    refine pl_val _ rfl rfl (val_indexArr a.toNat hT rfl rfl rfl rfl (by omega) (by omega) w1) ?_
    refine pl_op rfl rfl (opTo_store [.bool true] rfl rfl rfl rfl (by decide +kernel) h.blk (by rw [ccells_length h.nlen h.klen]; simp; omega) (by simp; rfl) ?_)
    have e : splice (ccells s N K dv) (0 + 18 + a.toNat * 1) [.bool true] = ccells s N (takeK K a) dv := by
      rw [Nat.zero_add, Nat.mul_one, ccells_setK h.nlen _ _ (by rw [h.klen]; omega), takeK, hb]
      rfl
    rw [e]
    refine au ?_
    obtain ⟨h1, h2, _⟩ := h.put N (takeK K a) h.nlen (by rw [takeK_length, h.klen])
    exact rn_end Tryz.func151 (.inr (.inl ⟨rfl, rfl⟩)) ⟨rfl, h1, h2⟩
end E
end Go.Proofs.YtmplkogkphmmjafGreat

/- The contracts of a commit's write, flush, lay, and of store.first. -/
namespace Go.Proofs.YtmplkogkphmmjafGreat
set_option maxRecDepth 20000
set_option maxHeartbeats 4000000
namespace E
open Go.Proofs

theorem lay1_ret {B : Nat} {w : World} {c s x : Nat} {N : List Int} {K : List Bool} {dv : Value} {fvs : List Value} {D : List Deed} (h : ComV B w c s N K dv fvs D) (hx : Blk w x [.pointer (some ⟨c, 0, none⟩)] 201) (j : Nat) (hj : j < 34) :
    Ret Tryz.prog 153 [.int .i64 (j : Nat), .pointer (some ⟨x, 0, none⟩)] w fun v w' => v = .bool (!K.getD j false) ∧ w' = w := by
  refine ret_of 11 Tryz.func153 rfl rfl (by simp) ?_
  refine au ?_
  refine pl_val (.pointer (some ⟨c, 0, none⟩)) rfl rfl (val_load1 hT rfl rfl rfl (hx.cell rfl)) ?_
  refine au ?_
  refine pl_val _ rfl rfl (val_indexArr j hT rfl rfl rfl rfl rfl hj w) ?_
  have hc := h.cellK (i := j) (x := K.getD j false) (by rw [List.getD_eq_getElem?_getD, List.getElem?_eq_getElem (by rw [h.klen]; exact hj)]; rfl)
  refine pl_val (.bool (K.getD j false)) rfl rfl (val_load1 hT rfl rfl rfl (by rw [Nat.zero_add, Nat.mul_one]; exact hc)) ?_
  refine au ?_
  exact rn_ret Tryz.func153 (.inl ⟨_, rfl, rfl⟩) ⟨rfl, rfl⟩

def firstOf (f : Nat → Bool) : Nat := ((List.range 34).find? f).getD 0

theorem firstOf_some {f : Nat → Bool} {j : Nat} (hj : j < 34) (h : ∀ k, k < j → f k = false) (hf : f j = true) : firstOf f = j := by
  have : (List.range 34).find? f = some j := by
    rw [List.find?_range_eq_some]
    exact ⟨hf, List.mem_range.2 hj, fun k hk => by simp [h k hk]⟩
  simp [firstOf, this]
theorem firstOf_none {f : Nat → Bool} (h : ∀ k, k < 34 → f k = false) : firstOf f = 0 := by
  have : (List.range 34).find? f = none := by
    rw [List.find?_eq_none]
    intro k hk
    simp [h k (List.mem_range.1 hk)]
  simp [firstOf, this]

theorem first_ret {w : World} (f : Nat → Bool) (g : Nat) (cap : List Value) (hg : callable Tryz.prog g = true) (hclo : ∀ j, j < 34 → Ret Tryz.prog g (.int .i64 (j : Nat) :: cap) w fun v w' => v = .bool (f j) ∧ w' = w) :
    Ret Tryz.prog 152 [.func (.func g) #[] cap.toArray] w fun v w' => v = .int .i64 (firstOf f : Nat) ∧ w' = w := by
  refine ret_of 12 Tryz.func152 rfl rfl (by simp) ?_
  refine au ?_
  refine rn_ind (fun m σ w' => ∃ j, m = 34 - j ∧ j ≤ 34 ∧ σ = [(0, .func (.func g) #[] cap.toArray), (4, .int .i64 (j : Nat))] ∧ w' = w ∧ ∀ k, k < j → f k = false)
    (34 - 0) _ ?_ ⟨0, rfl, by decide, rfl, rfl, by simp⟩ ?_
  · exact ⟨rfl, rfl, trivial⟩
  rintro m σ w2 ih ⟨j, hm, hj, rfl, rfl, hno⟩
  refine au ?_
  rcases Nat.lt_or_ge j 34 with hlt | hge
  · refine pl_val (.bool true) rfl rfl (val_int .i64 _ _ _ rfl rfl rfl (by simp [intOp]; omega) w2) ?_
    refine au ?_
    refine pl_op rfl rfl (opTo_call rfl rfl rfl rfl hg ((hclo j hlt).mono ?_))
    rintro v w3 ⟨rfl, rfl⟩
    cases hf : f j with
    | true =>
      refine au ?_
      exact rn_ret Tryz.func152 (.inl ⟨_, rfl, rfl⟩) ⟨by rw [firstOf_some hlt hno hf], rfl⟩
    | false =>
      refine au ?_
      refine pl_val (.int .i64 ((j + 1 : Nat) : Int)) rfl rfl (val_int .i64 j 1 _ rfl rfl rfl (by simp only [intOp]; rw [wrap_i64 (by omega) (by omega)]; rfl) w3) ?_
      refine au ?_
      refine rn_sub ?_ (ih (34 - (j + 1)) _ w3 (by omega) ⟨j + 1, rfl, hlt, rfl, rfl, fun k hk => ?_⟩)
      · exact ⟨rfl, rfl, trivial⟩
      · rcases Nat.lt_or_ge k j with h | h
        · exact hno k h
        · have : k = j := by omega
          rw [this]; exact hf
  · refine pl_val (.bool false) rfl rfl (val_int .i64 _ _ _ rfl rfl rfl (by simp [intOp]; omega) w2) ?_
    refine au ?_
    exact rn_ret Tryz.func152 (.inl ⟨_, rfl, rfl⟩) ⟨by rw [firstOf_none fun k hk => hno k (by omega)]; rfl, rfl⟩

theorem ccells_atD {s : Nat} {N : List Int} {K : List Bool} {dv : Value} (hN : N.length = 17) (hK : K.length = 34) : (ccells s N K dv)[0 + 52]? = some dv := by
  simp only [ccells]
  rw [List.getElem?_append_right (by simp [ints_length, hN]), List.getElem?_append_right (by simp [ints_length, bools_length, hN, hK])]
  simp [ints_length, bools_length, hN, hK]

/-- The append of a deed alone. -/
theorem ComV.app1 {B : Nat} {w w1 : World} {c s g : Nat} {N : List Int} {K : List Bool} {dv : Value} {fvs : List Value} {D : List Deed} (h : ComV B w c s N K dv fvs D)
    (hor : (dv.ownBlock = some g ∧ D.length + 1 ≤ capOf dv ∧ Keep [g] w w1) ∨ (g = w.heap.size ∧ Keep [] w w1 ∧ w1.heap.size = w.heap.size + 1)) : Tch B w w1 := by
  have hB : B ≤ w.heap.size := Nat.le_trans h.base (Nat.le_of_lt h.blk.lt)
  rcases hor with ⟨e, _, hk⟩ | ⟨e, hk, _⟩
  · refine hk.tch hB fun k hm => ?_
    simp at hm
    subst hm
    obtain ⟨L, hL⟩ := h.own.typ k (by simp [e])
    exact ⟨(h.own.lt k e).1, fun L' e' hb => by rw [blk_typ hb hL]; decide⟩
  · exact hk.tch0 hB

/-- What an append of one deed leaves: the commit with it. -/
theorem ComV.app {B : Nat} {w w1 : World} {c s g cap : Nat} {N : List Int} {K : List Bool} {dv fv : Value} {fvs : List Value} {D : List Deed} {d : Deed} (h : ComV B w c s N K dv fvs D) (hd : DeedV w c fv d)
    (hown : Own w1 B 1 1 (.slice (some ⟨g, 0, none⟩) (D.length + 1) cap) (D.length + 1) (fvs ++ [fv]))
    (hor : (dv.ownBlock = some g ∧ D.length + 1 ≤ capOf dv ∧ Keep [g] w w1) ∨ (g = w.heap.size ∧ Keep [] w w1 ∧ w1.heap.size = w.heap.size + 1)) :
    Blk w1 c (ccells s N K dv) 209 ∧ ComV B (w1.setRow c (ccells s N K (.slice (some ⟨g, 0, none⟩) (D.length + 1) cap)).toArray) c s N K (.slice (some ⟨g, 0, none⟩) (D.length + 1) cap) (fvs ++ [fv]) (D ++ [d]) ∧
      Tch B w (w1.setRow c (ccells s N K (.slice (some ⟨g, 0, none⟩) (D.length + 1) cap)).toArray) := by
  have hB : B ≤ w.heap.size := Nat.le_trans h.base (Nat.le_of_lt h.blk.lt)
  obtain ⟨hk, ht1⟩ : Keep [g] w w1 ∧ Tch B w w1 := by
    rcases hor with ⟨e, _, hk⟩ | ⟨e, hk, _⟩
    · refine ⟨hk, hk.tch hB fun k hm => ?_⟩
      simp at hm
      subst hm
      obtain ⟨L, hL⟩ := h.own.typ k (by simp [e])
      exact ⟨(h.own.lt k e).1, fun L' e' hb => by rw [blk_typ hb hL]; decide⟩
    · exact ⟨hk.of0, hk.tch0 hB⟩
  have hcg : c ≠ g := by
    rcases hor with ⟨e, _, _⟩ | ⟨e, _, _⟩
    · exact fun h' => h.notDv g e h'.symm
    · have := h.blk.lt; omega
  have hb1 : Blk w1 c (ccells s N K dv) 209 := hk.blk h.blk (by simpa using hcg)
  have hk2 : Keep [c] w1 (w1.setRow c (ccells s N K (.slice (some ⟨g, 0, none⟩) (D.length + 1) cap)).toArray) := (Keep.refl _ _).setRow _ _ (.inl (by simp))
  have ht2 : Tch B w1 (w1.setRow c (ccells s N K (.slice (some ⟨g, 0, none⟩) (D.length + 1) cap)).toArray) := hk2.tch (Nat.le_trans hB hk.size) fun k hm => by
    simp at hm
    subst hm
    exact ⟨h.base, fun L e hb => by rw [blk_typ hb hb1]; decide⟩
  refine ⟨hb1, ⟨hb1.set _, h.base, h.nlen, h.klen, ?_, ?_⟩, ht1.trans ht2⟩
  · have := hown.keep hk2 (fun k e => by simp [Value.ownBlock] at e; subst e; simpa using Ne.symm hcg)
    simpa using this
  · intro j d' hj
    have hlen : fvs.length = D.length := by simpa using h.own.1
    rcases Nat.lt_or_ge j D.length with hlt | hge
    · rw [List.getElem?_append_left hlt] at hj
      obtain ⟨fv', h1, h2⟩ := h.fs j d' hj
      exact ⟨fv', by rw [List.getElem?_append_left (by omega)]; exact h1, (h2.tch ht1).tch ht2⟩
    · rw [List.getElem?_append_right hge] at hj
      have h0 : j - D.length = 0 := by
        rcases Nat.eq_zero_or_pos (j - D.length) with h0 | h0
        · exact h0
        · rw [List.getElem?_eq_none (by simp; omega)] at hj; cases hj
      rw [h0] at hj
      simp at hj
      subst hj
      exact ⟨fv, by rw [List.getElem?_append_right (by omega), hlen, h0]; rfl, (hd.tch ht1).tch ht2⟩

theorem slice_deed (fv : Value) (h : fv.oneCell' = true) : sliceCells Tryz.prog 207 1 [(0, fv)] = some (1, [fv].toArray) := by
  cases fv <;> first | (cases h; done) | kernel_rfl

theorem cflush_ret {B : Nat} {w : World} {c s : Nat} {N : List Int} {K : List Bool} {dv : Value} {fvs : List Value} {D : List Deed} (h : ComV B w c s N K dv fvs D) (hD : D.length < 1000) :
    Ret Tryz.prog 144 [.pointer (some ⟨c, 0, none⟩)] w fun v w' => v = .tuple #[] ∧ (∃ dv' fvs', ComV B w' c s N K dv' fvs' (D ++ [none])) ∧ Tch B w w' := by
  refine ret_of 12 Tryz.func144 rfl rfl (by simp) ?_
  refine au ?_
  refine pl_op rfl rfl (opTo_box [.pointer (some ⟨c, 0, none⟩)] rfl rfl rfl ?_)
  have hB : B ≤ w.heap.size := Nat.le_trans h.base (Nat.le_of_lt h.blk.lt)
  have hk1 : Keep [] w (w.alloc (.cells [Value.pointer (some ⟨c, 0, none⟩)].toArray 201)) := (Keep.refl _ _).alloc _
  have hx1 := Blk.new w [Value.pointer (some ⟨c, 0, none⟩)] 201
  have ht1 := hk1.tch0 hB
  have h1 := h.keep0 hk1
  generalize (w.alloc (.cells [Value.pointer (some ⟨c, 0, none⟩)].toArray 201)) = w1 at *
  have hB1 : B ≤ w1.heap.size := Nat.le_trans hB ht1.size
  generalize w.heap.size = x at hx1
  refine au ?_
  have hS0 : Blk w1.drew x [.pointer (some ⟨c, 0, none⟩)] 201 ∧ Blk w1.drew c (ccells s N K dv) 209 := ⟨hx1, h1.blk⟩
  have hcd : ∀ w', Blk w' c (ccells s N K dv) 209 → w'.cell? ⟨c, 0 + 52, none⟩ = some dv := fun w' hb => hb.cell (ccells_atD h.nlen h.klen)
  refine rn_draw (fun w' => Blk w' x [.pointer (some ⟨c, 0, none⟩)] 201 ∧ Blk w' c (ccells s N K dv) 209) [10] hMix ?_
  refine dr_val 0 (.pointer (some ⟨c, 0, none⟩)) rfl (by decide +kernel) rfl rfl (fun w' hk => val_load1 hT rfl rfl rfl (hk.1.cell rfl)) hS0 ?_
  refine dr_val 1 (.pointer (some ⟨c, 0, none⟩)) rfl (by decide +kernel) rfl rfl (fun w' hk => val_load1 hT rfl rfl rfl (hk.1.cell rfl)) hS0 ?_
  refine tk 2 ?_
  refine tk 3 ?_
  refine dr_val 4 dv rfl (by decide +kernel) rfl rfl (fun w' hk => val_load1 hT rfl rfl rfl (hcd w' hk.2)) hS0 ?_
  refine tk 5 ?_
  refine dr_op 6 rfl (by decide +kernel) rfl rfl (opTo_buildSlice _ [_] rfl rfl (slice_deed _ rfl) ⟨fun _ => ⟨hS0.1.alloc _, hS0.2.alloc _⟩, ?_⟩)
  have hk2 := ((Keep.refl [] w1).drew).alloc (.cells [Value.func (.func 154) #[] #[.pointer (some ⟨x, 0, none⟩)]].toArray 1)
  have hy2 := Blk.new w1.drew [Value.func (.func 154) #[] #[.pointer (some ⟨x, 0, none⟩)]] 1
  have h2 := h1.keep0 hk2
  have hx2 := hk2.blk hx1 (by simp)
  have ht2 := hk2.tch0 hB1
  have hB2 : B ≤ (w1.drew.alloc (.cells [Value.func (.func 154) #[] #[.pointer (some ⟨x, 0, none⟩)]].toArray 1)).heap.size := Nat.le_trans hB1 ht2.size
  have hd : DeedV (w1.drew.alloc (.cells [Value.func (.func 154) #[] #[.pointer (some ⟨x, 0, none⟩)]].toArray 1)) c (Value.func (.func 154) #[] #[.pointer (some ⟨x, 0, none⟩)]) none := ⟨x, rfl, hx2⟩
  refine dr_op 7 rfl (by decide +kernel) rfl rfl (opTo_app B 1 1 8 fvs [Value.func (.func 154) #[] #[.pointer (some ⟨x, 0, none⟩)]] rfl rfl rfl (by decide +kernel) h2.own (hy2.range rfl) rfl (by simp; rfl) (by decide) (by unfold maxLen; omega) (by omega) hB2 ?_)
  intro g cap w3 hown hor
  obtain ⟨hb3, h4, ht4⟩ := h2.app hd hown hor
  have ht3 := h2.app1 hor
  refine ⟨fun _ => ⟨ht3.typ _ _ _ hx2 (by decide), hb3⟩, ?_⟩
  refine tk 8 ?_
  refine tk 9 ?_
  refine dr_op 10 rfl (by decide +kernel) rfl rfl (opTo_store _ rfl rfl rfl rfl (by kernel_rfl) hb3 (by rw [ccells_length h.nlen h.klen]; simp) (by simp; rfl) ⟨fun hn => absurd (by simp) hn, ?_⟩)
  rw [show splice (ccells s N K dv) (0 + 52) [Value.slice (some ⟨g, 0, none⟩) (D.length + 1) cap] = ccells s N K (.slice (some ⟨g, 0, none⟩) (D.length + 1) cap) from ccells_setD h.nlen h.klen _]
  refine dr_done (by decide +kernel) ?_
  exact rn_end Tryz.func144 (.inr (.inl ⟨rfl, rfl⟩)) ⟨rfl, ⟨_, _, h4⟩, (ht1.trans ht2).trans ht4⟩

theorem cwrite_ret {B : Nat} {w : World} {c s : Nat} {N : List Int} {K : List Bool} {dv : Value} {fvs : List Value} {D : List Deed} (h : ComV B w c s N K dv fvs D) (hD : D.length < 1000) (a : Int) {ws : List Int} (hw : ws.length = 8) :
    Ret Tryz.prog 145 [.pointer (some ⟨c, 0, none⟩), .int .i64 a, .agg (ints ws).toArray] w fun v w' => v = .tuple #[] ∧ (∃ dv' fvs', ComV B w' c s N K dv' fvs' (D ++ [some (a, ws)])) ∧ Tch B w w' := by
  refine ret_of 16 Tryz.func145 rfl rfl (by simp) ?_
  refine au ?_
  refine pl_op rfl rfl (opTo_box [.pointer (some ⟨c, 0, none⟩)] rfl rfl rfl ?_)
  refine pl_op rfl rfl (opTo_box [.int .i64 a] rfl rfl rfl ?_)
  refine pl_op rfl rfl (opTo_box (ints ws) rfl rfl rfl ?_)
  have hB : B ≤ w.heap.size := Nat.le_trans h.base (Nat.le_of_lt h.blk.lt)
  rw [World.size_alloc, World.size_alloc, World.size_alloc]
  have hk1 : Keep [] w (((w.alloc (.cells [Value.pointer (some ⟨c, 0, none⟩)].toArray 201)).alloc (.cells [Value.int .i64 a].toArray 2)).alloc (.cells (ints ws).toArray 109)) := (((Keep.refl _ _).alloc _).alloc _).alloc _
  have hx1 := ((Blk.new w [Value.pointer (some ⟨c, 0, none⟩)] 201).alloc (.cells [Value.int .i64 a].toArray 2)).alloc (.cells (ints ws).toArray 109)
  have hy1 := (Blk.new (w.alloc (.cells [Value.pointer (some ⟨c, 0, none⟩)].toArray 201)) [Value.int .i64 a] 2).alloc (.cells (ints ws).toArray 109)
  have hz1 := Blk.new ((w.alloc (.cells [Value.pointer (some ⟨c, 0, none⟩)].toArray 201)).alloc (.cells [Value.int .i64 a].toArray 2)) (ints ws) 109
  rw [World.size_alloc] at hy1 hz1
  rw [World.size_alloc] at hz1
  have ht1 := hk1.tch0 hB
  have h1 := h.keep0 hk1
  generalize (((w.alloc (.cells [Value.pointer (some ⟨c, 0, none⟩)].toArray 201)).alloc (.cells [Value.int .i64 a].toArray 2)).alloc (.cells (ints ws).toArray 109)) = w1 at *
  have hB1 : B ≤ w1.heap.size := Nat.le_trans hB ht1.size
  generalize w.heap.size + 1 + 1 = z at hz1 ⊢
  generalize w.heap.size + 1 = y at hy1 ⊢
  generalize w.heap.size = x at hx1
  refine au ?_
  have hS0 : Blk w1.drew x [.pointer (some ⟨c, 0, none⟩)] 201 ∧ Blk w1.drew c (ccells s N K dv) 209 := ⟨hx1, h1.blk⟩
  have hcd : ∀ w', Blk w' c (ccells s N K dv) 209 → w'.cell? ⟨c, 0 + 52, none⟩ = some dv := fun w' hb => hb.cell (ccells_atD h.nlen h.klen)
  refine rn_draw (fun w' => Blk w' x [.pointer (some ⟨c, 0, none⟩)] 201 ∧ Blk w' c (ccells s N K dv) 209) [10] hMix ?_
  refine dr_val 0 (.pointer (some ⟨c, 0, none⟩)) rfl (by decide +kernel) rfl rfl (fun w' hk => val_load1 hT rfl rfl rfl (hk.1.cell rfl)) hS0 ?_
  refine dr_val 1 (.pointer (some ⟨c, 0, none⟩)) rfl (by decide +kernel) rfl rfl (fun w' hk => val_load1 hT rfl rfl rfl (hk.1.cell rfl)) hS0 ?_
  refine tk 2 ?_
  refine tk 3 ?_
  refine dr_val 4 dv rfl (by decide +kernel) rfl rfl (fun w' hk => val_load1 hT rfl rfl rfl (hcd w' hk.2)) hS0 ?_
  refine tk 5 ?_
  refine dr_op 6 rfl (by decide +kernel) rfl rfl (opTo_buildSlice _ [_] rfl rfl (slice_deed _ rfl) ⟨fun _ => ⟨hS0.1.alloc _, hS0.2.alloc _⟩, ?_⟩)
  have hk2 := ((Keep.refl [] w1).drew).alloc (.cells [Value.func (.func 156) #[] #[.pointer (some ⟨x, 0, none⟩), .pointer (some ⟨y, 0, none⟩), .pointer (some ⟨z, 0, none⟩)]].toArray 1)
  have hy2 := Blk.new w1.drew [Value.func (.func 156) #[] #[.pointer (some ⟨x, 0, none⟩), .pointer (some ⟨y, 0, none⟩), .pointer (some ⟨z, 0, none⟩)]] 1
  have h2 := h1.keep0 hk2
  have hx2 := hk2.blk hx1 (by simp)
  have ht2 := hk2.tch0 hB1
  have hB2 : B ≤ (w1.drew.alloc (.cells [Value.func (.func 156) #[] #[.pointer (some ⟨x, 0, none⟩), .pointer (some ⟨y, 0, none⟩), .pointer (some ⟨z, 0, none⟩)]].toArray 1)).heap.size := Nat.le_trans hB1 ht2.size
  have hd : DeedV (w1.drew.alloc (.cells [Value.func (.func 156) #[] #[.pointer (some ⟨x, 0, none⟩), .pointer (some ⟨y, 0, none⟩), .pointer (some ⟨z, 0, none⟩)]].toArray 1)) c (Value.func (.func 156) #[] #[.pointer (some ⟨x, 0, none⟩), .pointer (some ⟨y, 0, none⟩), .pointer (some ⟨z, 0, none⟩)]) (some (a, ws)) := ⟨x, y, z, rfl, hx2, hk2.blk hy1 (by simp), hk2.blk hz1 (by simp), hw⟩
  refine dr_op 7 rfl (by decide +kernel) rfl rfl (opTo_app B 1 1 8 fvs [Value.func (.func 156) #[] #[.pointer (some ⟨x, 0, none⟩), .pointer (some ⟨y, 0, none⟩), .pointer (some ⟨z, 0, none⟩)]] rfl rfl rfl (by decide +kernel) h2.own (hy2.range rfl) rfl (by simp; rfl) (by decide) (by unfold maxLen; omega) (by omega) hB2 ?_)
  intro g cap w3 hown hor
  obtain ⟨hb3, h4, ht4⟩ := h2.app hd hown hor
  have ht3 := h2.app1 hor
  refine ⟨fun _ => ⟨ht3.typ _ _ _ hx2 (by decide), hb3⟩, ?_⟩
  refine tk 8 ?_
  refine tk 9 ?_
  refine dr_op 10 rfl (by decide +kernel) rfl rfl (opTo_store _ rfl rfl rfl rfl (by kernel_rfl) hb3 (by rw [ccells_length h.nlen h.klen]; simp) (by simp; rfl) ⟨fun hn => absurd (by simp) hn, ?_⟩)
  rw [show splice (ccells s N K dv) (0 + 52) [Value.slice (some ⟨g, 0, none⟩) (D.length + 1) cap] = ccells s N K (.slice (some ⟨g, 0, none⟩) (D.length + 1) cap) from ccells_setD h.nlen h.klen _]
  refine dr_done (by decide +kernel) ?_
  exact rn_end Tryz.func145 (.inr (.inl ⟨rfl, rfl⟩)) ⟨rfl, ⟨_, _, h4⟩, (ht1.trans ht2).trans ht4⟩


def freeK (K : List Bool) : Nat := firstOf fun i => !K.getD i false

theorem lay_ret {B : Nat} {w : World} {c s : Nat} {N : List Int} {K : List Bool} {dv : Value} {fvs : List Value} {D : List Deed} (h : ComV B w c s N K dv fvs D) (hD : D.length < 1000) {ws : List Int} (hw : ws.length = 8) :
    Ret Tryz.prog 142 [.pointer (some ⟨c, 0, none⟩), .agg (ints ws).toArray] w fun v w' => v = .int .i64 (freeK K : Nat) ∧ (∃ dv' fvs', ComV B w' c s N (takeK K (freeK K : Nat)) dv' fvs' (D ++ [some (((freeK K : Nat) : Int), ws)])) ∧ Tch B w w' := by
  refine ret_of 16 Tryz.func142 rfl rfl (by simp) ?_
  refine au ?_
  refine pl_op rfl rfl (opTo_box [.pointer (some ⟨c, 0, none⟩)] rfl rfl rfl ?_)
  refine pl_op rfl rfl (opTo_box (ints ws) rfl rfl rfl ?_)
  have hB : B ≤ w.heap.size := Nat.le_trans h.base (Nat.le_of_lt h.blk.lt)
  rw [World.size_alloc]
  have hk1 : Keep [] w ((w.alloc (.cells [Value.pointer (some ⟨c, 0, none⟩)].toArray 201)).alloc (.cells (ints ws).toArray 109)) := ((Keep.refl _ _).alloc _).alloc _
  have hx1 := (Blk.new w [Value.pointer (some ⟨c, 0, none⟩)] 201).alloc (.cells (ints ws).toArray 109)
  have hz1 := Blk.new (w.alloc (.cells [Value.pointer (some ⟨c, 0, none⟩)].toArray 201)) (ints ws) 109
  rw [World.size_alloc] at hz1
  have ht1 := hk1.tch0 hB
  have h1 := h.keep0 hk1
  generalize ((w.alloc (.cells [Value.pointer (some ⟨c, 0, none⟩)].toArray 201)).alloc (.cells (ints ws).toArray 109)) = w1 at *
  generalize w.heap.size + 1 = z at hz1 ⊢
  generalize w.heap.size = x at hx1
  refine au ?_
  refine pl_op rfl rfl (opTo_call rfl rfl rfl rfl (by decide +kernel) ((first_ret (fun i => !K.getD i false) 153 [.pointer (some ⟨x, 0, none⟩)] (by decide +kernel) fun j hj => lay1_ret h1 hx1 j hj).mono ?_))
  rintro v w2 ⟨rfl, rfl⟩
  rw [show (firstOf fun i => !K.getD i false) = freeK K from rfl]
  refine au ?_
  refine pl_val (.pointer (some ⟨c, 0, none⟩)) rfl rfl (val_load1 hT rfl rfl rfl (hx1.cell rfl)) ?_
  refine au ?_
  refine pl_op rfl rfl (opTo_call rfl rfl rfl rfl (by decide +kernel) ((take_ret h1 (freeK K : Nat)).mono ?_))
  rintro v w3 ⟨rfl, h3, ht3⟩
  have hx3 := ht3.typ _ _ _ hx1 (by decide)
  have hz3 := ht3.typ _ _ _ hz1 (by decide)
  refine au ?_
  refine pl_val (.pointer (some ⟨c, 0, none⟩)) rfl rfl (val_load1 hT rfl rfl rfl (hx3.cell rfl)) ?_
  refine au ?_
  refine pl_val (.agg (ints ws).toArray) rfl rfl (val_load _ hT rfl rfl (by rw [ints_length, hw]; rfl) (hz3.range (by simp))) ?_
  refine pl_op rfl rfl (opTo_call rfl rfl rfl rfl (by decide +kernel) ((cwrite_ret h3 hD (freeK K : Nat) hw).mono ?_))
  rintro v w4 ⟨rfl, h4, ht4⟩
  refine au ?_
  exact rn_ret Tryz.func142 (.inl ⟨_, rfl, rfl⟩) ⟨rfl, h4, (ht1.trans ht3).trans ht4⟩
end E
end Go.Proofs.YtmplkogkphmmjafGreat

/- The contracts of a state's words, of begin, of the deeds, and of do. -/
namespace Go.Proofs.YtmplkogkphmmjafGreat
set_option maxRecDepth 20000
set_option maxHeartbeats 4000000
namespace E
open Go.Proofs

def partW (N : List Int) (j : Nat) : List Int := (((N.drop (3 + j * 8)).take (14 - j * 8)) ++ z8).take 8
def rootW (N : List Int) : List Int := [N.getD 0 0, N.getD 1 0, N.getD 2 0, 0, 0, 0, 0, 0]

theorem list17 {l : List Int} (h : l.length = 17) : ∃ a b c d e f g i j k m n o p q r s, l = [a, b, c, d, e, f, g, i, j, k, m, n, o, p, q, r, s] := by
  match l, h with
  | [a, b, c, d, e, f, g, i, j, k, m, n, o, p, q, r, s], _ => exact ⟨a, b, c, d, e, f, g, i, j, k, m, n, o, p, q, r, s, rfl⟩

theorem partW_length {N : List Int} (_ : N.length = 17) (j : Nat) : (partW N j).length = 8 := by
  simp [partW, z8]

section
variable {B : Nat} {w : World} {c s : Nat} {N : List Int} {K : List Bool} {dv : Value} {fvs : List Value} {D : List Deed}

theorem partWords_ret (h : ComV B w c s N K dv fvs D) (j : Nat) (hj : j < 2) :
    Ret Tryz.prog 143 [.pointer (some ⟨c, 1, none⟩), .int .i64 (j : Nat)] w fun v w' => v = .agg (ints (partW N j)).toArray ∧ Keep [] w w' := by
  refine ret_of 15 Tryz.func143 rfl rfl (by simp) ?_
  refine au ?_
  refine pl_op rfl rfl (opTo_alloc _ rfl zero_words ?_)
  refine au ?_
  refine pl_op rfl rfl (opTo_alloc _ rfl zero_words ?_)
  rw [World.size_alloc]
  have hk1 : Keep [] w ((w.alloc (.cells (ints (List.replicate 8 0)).toArray 109)).alloc (.cells (ints (List.replicate 8 0)).toArray 109)) := ((Keep.refl _ _).alloc _).alloc _
  have hr1 := (Blk.new w (ints (List.replicate 8 0)) 109).alloc (.cells (ints (List.replicate 8 0)).toArray 109)
  have hx1 := Blk.new (w.alloc (.cells (ints (List.replicate 8 0)).toArray 109)) (ints (List.replicate 8 0)) 109
  rw [World.size_alloc] at hx1
  have h1 := h.keep0 hk1
  generalize ((w.alloc (.cells (ints (List.replicate 8 0)).toArray 109)).alloc (.cells (ints (List.replicate 8 0)).toArray 109)) = w1 at *
  refine au ?_
  refine rn_draw (fun _ => True) [] hMix ?_
  refine dr_any 0 _ rfl (by decide +kernel) rfl rfl (fun w' => val_sliceArr hT rfl rfl rfl w') ?_
  refine tk 1 ?_
  refine tk 2 ?_
  refine tk 3 ?_
  refine tk 4 ?_
  refine dr_any 5 (.int .i64 ((j * 8 : Nat) : Int)) rfl (by decide +kernel) rfl rfl (fun w' => val_int .i64 j 8 _ rfl rfl rfl (by simp only [intOp]; rw [wrap_i64 (by omega) (by omega)]; simp) w') ?_
  refine dr_any 6 _ rfl (by decide +kernel) rfl rfl (fun w' => val_sliceArrFrom (j * 8) hT rfl rfl rfl rfl rfl (by omega) w') ?_
  have hn := h.nlen
  have hcl : (((N.drop (3 + j * 8)).take (14 - j * 8)).take 8).length = Nat.min (14 - j * 8) 8 := by
    rw [List.length_take, List.length_take, List.length_drop, hn]
    simp only [Nat.min_def]
    repeat' split
    all_goals omega
  refine dr_op 7 rfl (by decide +kernel) rfl rfl (opTo_copy (ints (((N.drop (3 + j * 8)).take (14 - j * 8)).take 8)) rfl rfl rfl (by decide +kernel) hx1.drew (by rw [ints_length, hcl]) ?_ (by rw [ints_length, hcl]; simp only [ints_length, List.length_replicate, Nat.zero_add]; exact Nat.min_le_right _ _) (ints_one _) fun r => ⟨fun _ => trivial, ?_⟩)
  · have := (h1.keep0 ((Keep.refl [] w1).drew)).rangeN (3 + j * 8) (14 - j * 8) (by omega)
    refine rangeAt_take (cs := ints ((N.drop (3 + j * 8)).take (14 - j * 8))) ?_ ?_
    · have e : 1 + (3 + j * 8) = 1 + 3 + j * 8 * 1 := by omega
      rw [← e]; exact this
    · rw [ints_length, hcl]
      simp only [ints, List.map_take]
      rw [List.take_take, List.take_take]
      apply List.take_eq_take_iff.2
      simp only [List.length_map, List.length_drop, hn]
      simp only [Nat.min_def]
      repeat' split
      all_goals omega
  refine dr_done (by decide +kernel) ?_
  have e : splice (ints (List.replicate 8 0)) 0 (ints (((N.drop (3 + j * 8)).take (14 - j * 8)).take 8)) = ints (partW N j) := by
    have hj2 : j = 0 ∨ j = 1 := by omega
    obtain ⟨a, b, c, d, e, f, g, i, j, k, m, n, o, p, q, r, s, rfl⟩ := list17 hn
    rcases hj2 with rfl | rfl <;> rfl
  rw [e]
  have h8 := partW_length hn j
  have hx2 := hx1.drew.set (ints (partW N j))
  have hr2 := hr1.drew.other (ints (partW N j)).toArray (c := w.heap.size + 1) (by omega)
  have hk2 := (hk1.drew).setRow (w.heap.size + 1) (ints (partW N j)).toArray (.inr (by omega))
  generalize (w1.drew.setRow (w.heap.size + 1) (ints (partW N j)).toArray) = w2 at *
  refine au ?_
  refine pl_val (.agg (ints (partW N j)).toArray) rfl rfl (val_load _ hT rfl rfl (by rw [ints_length, h8]; rfl) (hx2.range (by simp))) ?_
  refine pl_op rfl rfl (opTo_store _ rfl rfl rfl rfl (by rw [ints_length, h8]; decide +kernel) hr2 (by rw [ints_length, h8]; decide) (ints_one _) ?_)
  rw [splice_all (by rw [ints_length, h8]; rfl)]
  refine au ?_
  exact rn_ret Tryz.func143 (.inr (.inr (.inl ⟨_, _, _, rfl, rfl, loadVar_agg hT (cs := ints (partW N j)) (by rw [ints_length, h8]; rfl) ((hr2.set _).range (by simp))⟩))) ⟨rfl, hk2.setRow _ _ (.inr (Nat.le_refl _))⟩

theorem rootAt_ret (h : ComV B w c s N K dv fvs D) :
    Ret Tryz.prog 146 [.pointer (some ⟨c, 1, none⟩)] w fun v w' => v = .int .i64 ((N.getD 0 0).tmod 2) ∧ w' = w := by
  refine ret_of 8 Tryz.func146 rfl rfl (by simp) ?_
  refine au ?_
  have hc := h.cellN (i := 0) (x := N.getD 0 0) (by rw [List.getD_eq_getElem?_getD, List.getElem?_eq_getElem (by rw [h.nlen]; decide)]; rfl)
  refine pl_val (.int .i64 (N.getD 0 0)) rfl rfl (val_load1 hT rfl rfl rfl hc) ?_
  refine pl_val (.int .i64 ((N.getD 0 0).tmod 2)) rfl rfl (val_int .i64 _ 2 _ rfl rfl rfl (by simp [intOp]) w) ?_
  refine au ?_
  exact rn_ret Tryz.func146 (.inl ⟨_, rfl, rfl⟩) ⟨rfl, rfl⟩

theorem built_root (g : Int) : Tryz.prog.built 109 [(0, Value.int .i64 g)] = some (ints [g, 0, 0, 0, 0, 0, 0, 0]).toArray := by kernel_rfl

theorem rootWords_ret (h : ComV B w c s N K dv fvs D) :
    Ret Tryz.prog 147 [.pointer (some ⟨c, 1, none⟩)] w fun v w' => v = .agg (ints (rootW N)).toArray ∧ Keep [] w w' := by
  refine ret_of 16 Tryz.func147 rfl rfl (by simp) ?_
  refine au ?_
  refine pl_op rfl rfl (opTo_alloc _ rfl zero_words ?_)
  have hk1 : Keep [] w (w.alloc (.cells (ints (List.replicate 8 0)).toArray 109)) := (Keep.refl _ _).alloc _
  have hr1 := Blk.new w (ints (List.replicate 8 0)) 109
  have h1 := h.keep0 hk1
  generalize (w.alloc (.cells (ints (List.replicate 8 0)).toArray 109)) = w1 at *
  refine au ?_
  have hn := h.nlen
  have hc := h1.cellN (i := 0) (x := N.getD 0 0) (by rw [List.getD_eq_getElem?_getD, List.getElem?_eq_getElem (by rw [h.nlen]; decide)]; rfl)
  refine pl_val (.int .i64 (N.getD 0 0)) rfl rfl (val_load1 hT rfl rfl rfl hc) ?_
  refine pl_val _ rfl rfl (val_build _ rfl rfl (built_root _) w1) ?_
  refine pl_op rfl rfl (opTo_alloc _ rfl zero_words ?_)
  have hk2 := hk1.alloc (.cells (ints (List.replicate 8 0)).toArray 109)
  have hr2 := hr1.alloc (.cells (ints (List.replicate 8 0)).toArray 109)
  have hx2 := Blk.new w1 (ints (List.replicate 8 0)) 109
  have hne : w.heap.size ≠ w1.heap.size := by have := hr1.lt; omega
  have hsz := hk1.size
  generalize (w1.alloc (.cells (ints (List.replicate 8 0)).toArray 109)) = w2 at *
  refine au ?_
  refine pl_op rfl rfl (opTo_store _ rfl rfl rfl rfl (by kernel_rfl) hx2 (by simp [ints]) (ints_one _) ?_)
  rw [splice_all (show (ints [N.getD 0 0, 0, 0, 0, 0, 0, 0, 0]).length = (ints (List.replicate 8 0)).length from rfl)]
  have hk3 := hk2.setRow w1.heap.size (ints [N.getD 0 0, 0, 0, 0, 0, 0, 0, 0]).toArray (.inr hsz)
  have hx3 := hx2.set (ints [N.getD 0 0, 0, 0, 0, 0, 0, 0, 0])
  have hr3 := hr2.other (ints [N.getD 0 0, 0, 0, 0, 0, 0, 0, 0]).toArray hne
  have h3 := h.keep0 hk3
  generalize (w2.setRow w1.heap.size (ints [N.getD 0 0, 0, 0, 0, 0, 0, 0, 0]).toArray) = w3 at *
  refine au ?_
  refine rn_draw (fun _ => True) [] hMix ?_
  refine dr_any 0 _ rfl (by decide +kernel) rfl rfl (fun w' => val_sliceArrFrom 1 hT rfl rfl rfl rfl rfl (by decide) w') ?_
  refine tk 1 ?_
  refine tk 2 ?_
  refine tk 3 ?_
  refine dr_any 4 _ rfl (by decide +kernel) rfl rfl (fun w' => val_sliceArr hT rfl rfl rfl w') ?_
  have hcl : ((N.drop 1).take 2).length = 2 := by simp [hn]
  refine dr_op 5 rfl (by decide +kernel) rfl rfl (opTo_copy (ints ((N.drop 1).take 2)) rfl rfl rfl (by decide +kernel) hx3.drew (by rw [ints_length, hcl]; rfl) ((h3.keep0 ((Keep.refl [] w3).drew)).rangeN 1 2 (by decide)) (by rw [ints_length, hcl]; simp [ints]) (ints_one _) fun r => ⟨fun _ => trivial, ?_⟩)
  refine dr_done (by decide +kernel) ?_
  have e : splice (ints [N.getD 0 0, 0, 0, 0, 0, 0, 0, 0]) (0 + 1 * 1) (ints ((N.drop 1).take 2)) = ints (rootW N) := by
    obtain ⟨a, b, c, d, e, f, g, i, j, k, m, n, o, p, q, r, s, rfl⟩ := list17 hn
    rfl
  rw [e]
  have hx4 := hx3.drew.set (ints (rootW N))
  have hr4 := hr3.drew.other (ints (rootW N)).toArray hne
  have hk4 := (hk3.drew).setRow w1.heap.size (ints (rootW N)).toArray (.inr hsz)
  generalize (w3.drew.setRow w1.heap.size (ints (rootW N)).toArray) = w4 at *
  refine au ?_
  refine pl_val (.agg (ints (rootW N)).toArray) rfl rfl (val_load _ hT rfl rfl rfl (hx4.range (by simp))) ?_
  refine pl_op rfl rfl (opTo_store _ rfl rfl rfl rfl (by kernel_rfl) hr4 (by simp [ints, rootW]) (ints_one _) ?_)
  rw [splice_all (show (ints (rootW N)).length = (ints (List.replicate 8 0)).length from rfl)]
  refine au ?_
  exact rn_ret Tryz.func147 (.inr (.inr (.inl ⟨_, _, _, rfl, rfl, loadVar_agg hT (cs := ints (rootW N)) rfl ((hr4.set _).range (by simp))⟩))) ⟨rfl, hk4.setRow _ _ (.inr (Nat.le_refl _))⟩
end
end E
end Go.Proofs.YtmplkogkphmmjafGreat

/- The contracts of store.begin, of the deeds, and of do. -/
namespace Go.Proofs.YtmplkogkphmmjafGreat
set_option maxRecDepth 20000
set_option maxHeartbeats 4000000
namespace E
open Go.Proofs

theorem built_commit (s : Nat) {N : List Int} (h : N.length = 17) : Tryz.prog.built 209 [(0, Value.pointer (some ⟨s, 0, none⟩)), (1, Value.agg (ints N).toArray)] = some (ccells s N (List.replicate 34 false) (.slice none 0 0)).toArray := by
  obtain ⟨a, b, c, d, e, f, g, i, j, k, m, n, o, p, q, r, s, rfl⟩ := list17 h
  kernel_rfl

def takeAll (K : List Bool) (l : List Int) : List Bool := l.foldl takeK K
theorem takeAll_length (K : List Bool) (l : List Int) : (takeAll K l).length = K.length := by
  induction l generalizing K with
  | nil => rfl
  | cons a r ih => rw [takeAll, List.foldl_cons]; exact (ih _).trans (takeK_length _ _)
theorem takeAll_snoc (K : List Bool) {l : List Int} {j : Nat} {a : Int} (h : l[j]? = some a) : takeAll K (l.take (j + 1)) = takeK (takeAll K (l.take j)) a := by
  have hlt : j < l.length := (List.getElem?_eq_some_iff.1 h).1
  have hj : l[j] = a := (List.getElem?_eq_some_iff.1 h).2
  rw [List.take_succ_eq_append_getElem hlt, hj, takeAll, List.foldl_append]
  rfl

def K0 : List Bool := List.replicate 34 false
/-- What is taken: the roots, and what the last commit leads to. -/
def takenK (S : List Int) : List Bool := takeAll (takeAll (takeAll K0 [0, 1]) (tabS S)) (pgS S)

/-- The state with one commit more. -/
def nextN (S : List Int) : List Int := (genS S + 1) :: (tabS S ++ pgS S)

theorem begin_ret {B : Nat} {w : World} {s d : Nat} {S : List Int} {L : List Wr} {wv : Value} (hs : StoreV w s d) (h : DiskV B w d S L wv) (hg0 : 0 ≤ genS S) (hg1 : genS S < 1000000) :
    Ret Tryz.prog 141 [.pointer (some ⟨s, 0, none⟩)] w fun v w' => ∃ c, v = .pointer (some ⟨c, 0, none⟩) ∧ ComV w.heap.size w' c s (nextN S) (takenK S) (.slice none 0 0) [] [] ∧ Keep [] w w' := by
  refine ret_of 59 Tryz.func141 rfl rfl (by simp) ?_
  refine au ?_
  refine pl_val (.pointer (some ⟨d, 0, none⟩)) rfl rfl (val_load1 hT rfl rfl rfl (hs.cell rfl)) ?_
  refine pl_op rfl rfl (opTo_call rfl rfl rfl rfl (by decide +kernel) ((sure_ret h).mono ?_))
  rintro v w1 ⟨g, cap, rfl, ho, hk1⟩
  refine pl_op rfl rfl (opTo_call rfl rfl rfl rfl (by decide +kernel) ((find_ret ho h.len (by have := owns_cap ho; omega)).mono ?_))
  rintro v w2 ⟨rfl, hk2⟩
  have hkw2 := hk1.tr0 hk2
  have h17 := stS_length h.len
  refine pl_val _ rfl rfl (val_build _ rfl rfl (built_commit s h17) w2) ?_
  refine pl_op rfl rfl (opTo_box _ rfl rfl rfl ?_)
  have hk3 := hkw2.alloc (.cells (ccells s (stS S) K0 (.slice none 0 0)).toArray 209)
  have hb3 := Blk.new w2 (ccells s (stS S) K0 (.slice none 0 0)) 209
  have h3 : ComV w.heap.size (w2.alloc (.cells (ccells s (stS S) K0 (.slice none 0 0)).toArray 209)) w2.heap.size s (stS S) K0 (.slice none 0 0) [] [] :=
    ⟨hb3, hkw2.size, h17, rfl, Own.nil _ _ _ _, fun j d hd => by simp at hd⟩
  rw [show (List.replicate 34 false) = K0 from rfl]
  clear hb3
  generalize (w2.alloc (.cells (ccells s (stS S) K0 (.slice none 0 0)).toArray 209)) = w3 at *
  generalize w2.heap.size = c at *
  refine au ?_
  refine rn_ind (fun m σ w' => ∃ j, m = 2 - j ∧ j ≤ 2 ∧ σ = [(3, .pointer (some ⟨c, 0, none⟩)), (18, .int .i64 (j : Nat))] ∧ Keep [] w w' ∧ ComV w.heap.size w' c s (stS S) (takeAll K0 (([0, 1] : List Int).take j)) (.slice none 0 0) [] [])
    (2 - 0) _ ?_ ⟨0, rfl, by decide, rfl, hk3, h3⟩ ?_
  · exact ⟨rfl, rfl, trivial⟩
  clear h3 hk3
  rintro m σ w4 ih ⟨j, hm, hj, rfl, hk4, h4⟩
  refine au ?_
  rcases Nat.lt_or_ge j 2 with hlt | hge
  · refine pl_val (.bool true) rfl rfl (val_int .i64 _ _ _ rfl rfl rfl (by simp [intOp]; omega) w4) ?_
    refine au ?_
    have hel : ([0, 1] : List Int)[j]? = some (j : Int) := by
      have : j = 0 ∨ j = 1 := by omega
      rcases this with rfl | rfl <;> rfl
    refine pl_op rfl rfl (opTo_call rfl rfl rfl rfl (by decide +kernel) ((take_ret h4 (j : Nat)).mono ?_))
    rintro v w5 ⟨rfl, h5, ht5⟩
    refine au ?_
    refine pl_val (.int .i64 ((j + 1 : Nat) : Int)) rfl rfl (val_int .i64 j 1 _ rfl rfl rfl (by simp only [intOp]; rw [wrap_i64 (by omega) (by omega)]; rfl) w5) ?_
    refine au ?_
    refine rn_sub ?_ (ih (2 - (j + 1)) _ w5 (by omega) ⟨j + 1, rfl, hlt, rfl, ht5.keep hk4 (Nat.le_refl _), by rw [takeAll_snoc K0 hel]; exact h5⟩)
    exact ⟨rfl, rfl, trivial⟩
  have hj2 : j = 2 := by omega
  subst hj2
  clear ih hm hj hge
  replace h4 : ComV w.heap.size w4 c s (stS S) (takeAll K0 [0, 1]) (.slice none 0 0) [] [] := h4
  generalize hK1 : takeAll K0 [0, 1] = K1 at h4
  refine pl_val (.bool false) rfl rfl (val_int .i64 _ _ _ rfl rfl rfl (by simp [intOp]) w4) ?_
  refine au ?_
  have t2 := tabS_length h.len
  have p14 := pgS_length h.len
  have hrt := h4.rangeN 1 2 (by decide)
  rw [show ((stS S).drop 1).take 2 = tabS S by simp [stS, t2]] at hrt
  refine pl_val (.agg (ints (tabS S)).toArray) rfl rfl (val_load _ hT rfl rfl (by rw [ints_length, t2]; rfl) hrt) ?_
  refine au ?_
  refine rn_ind (fun m σ w' => ∃ j, m = 2 - j ∧ j ≤ 2 ∧ σ = [(3, .pointer (some ⟨c, 0, none⟩)), (29, .agg (ints (tabS S)).toArray), (30, .int .i64 (j : Nat))] ∧ Keep [] w w' ∧ ComV w.heap.size w' c s (stS S) (takeAll K1 ((tabS S).take j)) (.slice none 0 0) [] [])
    (2 - 0) _ ?_ ⟨0, rfl, by decide, rfl, hk4, h4⟩ ?_
  · exact ⟨rfl, rfl, rfl, trivial⟩
  clear h4 hk4 hrt
  rintro m σ w4 ih ⟨j, hm, hj, rfl, hk4, h4⟩
  refine au ?_
  rcases Nat.lt_or_ge j 2 with hlt | hge
  · refine pl_val (.bool true) rfl rfl (val_int .i64 _ _ _ rfl rfl rfl (by simp [intOp]; omega) w4) ?_
    refine au ?_
    obtain ⟨a, ha⟩ : ∃ a, (tabS S)[j]? = some a := ⟨_, List.getElem?_eq_getElem (by omega)⟩
    refine pl_val (.int .i64 a) rfl rfl (val_at _ j arrT rfl rfl rfl rfl hlt ha w4) ?_
    refine au ?_
    refine pl_op rfl rfl (opTo_call rfl rfl rfl rfl (by decide +kernel) ((take_ret h4 a).mono ?_))
    rintro v w5 ⟨rfl, h5, ht5⟩
    refine au ?_
    refine pl_val (.int .i64 ((j + 1 : Nat) : Int)) rfl rfl (val_int .i64 j 1 _ rfl rfl rfl (by simp only [intOp]; rw [wrap_i64 (by omega) (by omega)]; rfl) w5) ?_
    refine au ?_
    refine rn_sub ?_ (ih (2 - (j + 1)) _ w5 (by omega) ⟨j + 1, rfl, hlt, rfl, ht5.keep hk4 (Nat.le_refl _), by rw [takeAll_snoc K1 ha]; exact h5⟩)
    exact ⟨rfl, rfl, rfl, trivial⟩
  have hj2 : j = 2 := by omega
  subst hj2
  clear ih hm hj hge
  rw [List.take_of_length_le (by omega)] at h4
  generalize hK2 : takeAll K1 (tabS S) = K2 at h4
  refine pl_val (.bool false) rfl rfl (val_int .i64 _ _ _ rfl rfl rfl (by simp [intOp]) w4) ?_
  refine au ?_
  have hrp := h4.rangeN 3 14 (by decide)
  rw [show ((stS S).drop 3).take 14 = pgS S by simp [stS, t2, List.take_of_length_le, p14]] at hrp
  refine pl_val (.agg (ints (pgS S)).toArray) rfl rfl (val_load _ hT rfl rfl (by rw [ints_length, p14]; rfl) hrp) ?_
  refine au ?_
  refine rn_ind (fun m σ w' => ∃ j, m = 14 - j ∧ j ≤ 14 ∧ σ = [(3, .pointer (some ⟨c, 0, none⟩)), (41, .agg (ints (pgS S)).toArray), (42, .int .i64 (j : Nat))] ∧ Keep [] w w' ∧ ComV w.heap.size w' c s (stS S) (takeAll K2 ((pgS S).take j)) (.slice none 0 0) [] [])
    (14 - 0) _ ?_ ⟨0, rfl, by decide, rfl, hk4, h4⟩ ?_
  · exact ⟨rfl, rfl, rfl, trivial⟩
  clear h4 hk4 hrp
  rintro m σ w4 ih ⟨j, hm, hj, rfl, hk4, h4⟩
  refine au ?_
  rcases Nat.lt_or_ge j 14 with hlt | hge
  · refine pl_val (.bool true) rfl rfl (val_int .i64 _ _ _ rfl rfl rfl (by simp [intOp]; omega) w4) ?_
    refine au ?_
    obtain ⟨a, ha⟩ : ∃ a, (pgS S)[j]? = some a := ⟨_, List.getElem?_eq_getElem (by omega)⟩
    refine pl_val (.int .i64 a) rfl rfl (val_at _ j arrP rfl rfl rfl rfl hlt ha w4) ?_
    refine au ?_
    refine pl_op rfl rfl (opTo_call rfl rfl rfl rfl (by decide +kernel) ((take_ret h4 a).mono ?_))
    rintro v w5 ⟨rfl, h5, ht5⟩
    refine au ?_
    refine pl_val (.int .i64 ((j + 1 : Nat) : Int)) rfl rfl (val_int .i64 j 1 _ rfl rfl rfl (by simp only [intOp]; rw [wrap_i64 (by omega) (by omega)]; rfl) w5) ?_
    refine au ?_
    refine rn_sub ?_ (ih (14 - (j + 1)) _ w5 (by omega) ⟨j + 1, rfl, hlt, rfl, ht5.keep hk4 (Nat.le_refl _), by rw [takeAll_snoc K2 ha]; exact h5⟩)
    exact ⟨rfl, rfl, rfl, trivial⟩
  have hj2 : j = 14 := by omega
  subst hj2
  clear ih hm hj hge
  rw [List.take_of_length_le (by omega)] at h4
  refine pl_val (.bool false) rfl rfl (val_int .i64 _ _ _ rfl rfl rfl (by simp [intOp]) w4) ?_
  refine au ?_
  refine pl_val (.int .i64 (genS S)) rfl rfl (val_load1 hT rfl rfl rfl (h4.cellN (i := 0) rfl)) ?_
  refine pl_val (.int .i64 (genS S + 1)) rfl rfl (val_int .i64 _ 1 _ rfl rfl rfl (by simp only [intOp]; rw [wrap_i64 (by omega) (by omega)]) w4) ?_
  refine au ?_
  refine pl_op rfl rfl (opTo_store _ rfl rfl rfl rfl (by kernel_rfl) h4.blk (by rw [ccells_length h4.nlen h4.klen]; simp) (by simp; rfl) ?_)
  rw [show splice (ccells s (stS S) (takeAll K2 (pgS S)) (.slice none 0 0)) (0 + 1 + 0) [.int .i64 (genS S + 1)] = ccells s (nextN S) (takeAll K2 (pgS S)) (.slice none 0 0) from (ccells_setN 0 _ (by omega)).trans rfl]
  obtain ⟨h5, ht5, _⟩ := h4.put (nextN S) (takeAll K2 (pgS S)) (by simp [nextN, t2, p14]) h4.klen
  refine au ?_
  refine rn_ret Tryz.func141 (.inl ⟨_, rfl, rfl⟩) ⟨c, rfl, ?_, ht5.keep hk4 (Nat.le_refl _)⟩
  have e : takenK S = takeAll K2 (pgS S) := by rw [← hK2, ← hK1]; rfl
  rw [e]
  exact h5

/-- What a deed makes of a disk. -/
def doDeed (x : List Int × List Wr) : Deed → List Int × List Wr
  | none => (settled (fun _ => true) x.2 x.1, [])
  | some (a, ws) => (x.1, if hasB a then x.2 ++ [(a.toNat, ws)] else x.2)
def doDeeds (D : List Deed) (x : List Int × List Wr) : List Int × List Wr := D.foldl doDeed x

theorem doDeeds_snoc {D : List Deed} {j : Nat} {d : Deed} (h : D[j]? = some d) (x : List Int × List Wr) : doDeeds (D.take (j + 1)) x = doDeed (doDeeds (D.take j) x) d := by
  have hlt : j < D.length := (List.getElem?_eq_some_iff.1 h).1
  have hj : D[j] = d := (List.getElem?_eq_some_iff.1 h).2
  rw [List.take_succ_eq_append_getElem hlt, hj, doDeeds, List.foldl_append]
  rfl
theorem doDeeds_len (D : List Deed) (x : List Int × List Wr) : (doDeeds D x).2.length ≤ x.2.length + D.length := by
  induction D generalizing x with
  | nil => simp [doDeeds]
  | cons d r ih =>
    have h1 := ih (doDeed x d)
    have h2 : (doDeed x d).2.length ≤ x.2.length + 1 := by
      cases d with
      | none => simp [doDeed]
      | some p => simp only [doDeed]; split <;> simp
    simp only [doDeeds, List.foldl_cons, List.length_cons] at h1 ⊢
    omega

theorem fpD_typ {B : Nat} {w : World} {d : Nat} {S : List Int} {L : List Wr} {wv : Value} (h : DiskV B w d S L wv) : ∀ k ∈ fpD d wv, ∀ M e, Blk w k M e → e = 113 ∨ e = 184 := by
  intro k hk M e hb
  simp only [fpD, List.mem_cons, Option.mem_toList] at hk
  rcases hk with rfl | hk
  · exact .inl (blk_typ hb h.blk)
  · rcases h.owns.2 with ⟨h1, _⟩ | ⟨g, cap, cur, h1, _, hg, _⟩
    · rw [h1] at hk; simp [Value.ownBlock] at hk
    · rw [h1] at hk
      simp [Value.ownBlock] at hk
      subst hk
      refine .inr (blk_typ (L' := cur.toList) hb ?_)
      unfold Blk
      simpa using hg

section
variable {B Bd : Nat} {w : World} {c s d : Nat} {N : List Int} {K : List Bool} {dv : Value} {fvs : List Value} {D : List Deed} {S : List Int} {L : List Wr} {wv : Value}

theorem deed_ret (h : ComV B w c s N K dv fvs D) (hs : StoreV w s d) (hd : DiskV Bd w d S L wv) (hL : L.length < 1000000) {fv : Value} {de : Deed} (hv : DeedV w c fv de) :
    ∃ g cap, fv = .func (.func g) #[] (List.toArray cap) ∧ callable Tryz.prog g = true ∧ Ret Tryz.prog g cap w fun v w' => v = .tuple #[] ∧ ∃ wv', DiskV Bd w' d (doDeed (S, L) de).1 (doDeed (S, L) de).2 wv' ∧ Keep (fpD d wv) w w' ∧ ∀ k ∈ fpD d wv', k ∈ fpD d wv ∨ w.heap.size ≤ k := by
  cases de with
  | none =>
    obtain ⟨x, rfl, hx⟩ := hv
    refine ⟨_, [.pointer (some ⟨x, 0, none⟩)], rfl, by decide +kernel, ?_⟩
    refine ret_of 9 Tryz.func154 rfl rfl (by simp) ?_
    refine au ?_
    refine pl_val (.pointer (some ⟨c, 0, none⟩)) rfl rfl (val_load1 hT rfl rfl rfl (hx.cell rfl)) ?_
    refine au ?_
    refine pl_val (.pointer (some ⟨s, 0, none⟩)) rfl rfl (val_load1 hT rfl rfl rfl h.cellS) ?_
    refine au ?_
    refine pl_val (.pointer (some ⟨d, 0, none⟩)) rfl rfl (val_load1 hT rfl rfl rfl (hs.cell rfl)) ?_
    refine pl_op rfl rfl (opTo_call rfl rfl rfl rfl (by decide +kernel) ((flush_ret hd hL).mono ?_))
    rintro v w1 ⟨rfl, h1, hk⟩
    refine au ?_
    refine rn_end Tryz.func154 (.inr (.inl ⟨rfl, rfl⟩)) ⟨rfl, _, h1, hk.mono fun k hk => .inl (by simp at hk; simp [fpD, hk]), fun k hk => .inl ?_⟩
    simp [fpD, Value.ownBlock] at hk
    simp [fpD, hk]
  | some p =>
    obtain ⟨x, y, z, rfl, hx, hy, hz, h8⟩ := hv
    refine ⟨_, [.pointer (some ⟨x, 0, none⟩), .pointer (some ⟨y, 0, none⟩), .pointer (some ⟨z, 0, none⟩)], rfl, by decide +kernel, ?_⟩
    refine ret_of 13 Tryz.func156 rfl rfl (by simp) ?_
    have hk0 : Keep (fpD d wv) w w.drew := (Keep.refl _ _).drew
    have hty := fpD_typ hd
    have hxn : x ∉ fpD d wv := fun hm => absurd (hty x hm _ _ hx) (by decide)
    have hyn : y ∉ fpD d wv := fun hm => absurd (hty y hm _ _ hy) (by decide)
    have hzn : z ∉ fpD d wv := fun hm => absurd (hty z hm _ _ hz) (by decide)
    have hsn : s ∉ fpD d wv := fun hm => absurd (hty s hm _ _ hs) (by decide)
    have hcn : c ∉ fpD d wv := fun hm => absurd (hty c hm _ _ h.blk) (by decide)
    refine au ?_
    refine rn_draw (fun w' => Keep (fpD d wv) w w') [] hMix ?_
    refine dr_val 0 (.pointer (some ⟨c, 0, none⟩)) rfl (by decide +kernel) rfl rfl (fun w' hk => val_load1 hT rfl rfl rfl ((hk.blk hx hxn).cell rfl)) hk0 ?_
    refine tk 1 ?_
    refine tk 2 ?_
    refine dr_val 3 (.pointer (some ⟨s, 0, none⟩)) rfl (by decide +kernel) rfl rfl (fun w' hk => val_load1 hT rfl rfl rfl ((hk.blk h.blk hcn).cell rfl)) hk0 ?_
    refine tk 4 ?_
    refine tk 5 ?_
    refine dr_val 6 (.pointer (some ⟨d, 0, none⟩)) rfl (by decide +kernel) rfl rfl (fun w' hk => val_load1 hT rfl rfl rfl ((hk.blk hs hsn).cell rfl)) hk0 ?_
    refine dr_val 7 (.int .i64 p.1) rfl (by decide +kernel) rfl rfl (fun w' hk => val_load1 hT rfl rfl rfl ((hk.blk hy hyn).cell rfl)) hk0 ?_
    refine dr_val 8 (.agg (ints p.2).toArray) rfl (by decide +kernel) rfl rfl (fun w' hk => val_load _ hT rfl rfl (by rw [ints_length, h8]; rfl) ((hk.blk hz hzn).range (by simp))) hk0 ?_
    refine dr_op 9 rfl (by decide +kernel) rfl rfl (opTo_call rfl rfl rfl rfl (by decide +kernel) ((write_ret (hd.keep ((Keep.refl [] _).drew) (by simp)) p.1 h8 hL).mono ?_))
    rintro v w1 ⟨rfl, wv', h1, hk, hf⟩
    refine ⟨fun _ => hk0.tr hk, ?_⟩
    refine dr_done (by decide +kernel) ?_
    exact rn_end Tryz.func156 (.inr (.inl ⟨rfl, rfl⟩)) ⟨rfl, wv', h1, hk0.tr hk, hf⟩

theorem do_ret (h : ComV B w c s N K dv fvs D) (hs : StoreV w s d) (hd : DiskV Bd w d S L wv) (hL : L.length + D.length < 1000000) (may : Int) (m : Nat) (hm : m = if may < 0 ∨ may ≥ D.length then D.length else may.toNat) :
    Ret Tryz.prog 148 [.pointer (some ⟨c, 0, none⟩), .int .i64 may] w fun v w' => v = .bool (decide (may < 0 ∨ may ≥ D.length)) ∧ ∃ wv', DiskV Bd w' d (doDeeds (D.take m) (S, L)).1 (doDeeds (D.take m) (S, L)).2 wv' ∧ Keep (fpD d wv) w w' ∧ ∀ k ∈ fpD d wv', k ∈ fpD d wv ∨ w.heap.size ≤ k := by
  refine ret_of 40 Tryz.func148 rfl rfl (by simp) ?_
  obtain ⟨da, dcap, hdv⟩ := h.own.form
  have hcap : D.length ≤ dcap := by have := h.own.cap_le; rw [hdv] at this; exact this
  have hmD : m ≤ D.length := by rw [hm]; split <;> omega
  refine auj ?_
  refine rn_seq ?_
  refine rn_plain ?_
  refine pl_pure hT rfl rfl rfl ?_
  refine pl_nil ?_
  refine rn_seq ?_
  refine rn_with (fun σ w' => w' = w ∧ σ = [(0, .pointer (some ⟨c, 0, none⟩)), (1, .int .i64 may), (5, .bool (decide (may < 0 ∨ may ≥ D.length)))]) ?_ ?_
  · rintro σ w1 ⟨rfl, rfl⟩
    refine rn_seq ?_
    refine rn_with (fun σ w' => w' = w1 ∧ σ = [(0, .pointer (some ⟨c, 0, none⟩)), (1, .int .i64 (m : Nat)), (5, .bool (decide (may < 0 ∨ may ≥ D.length)))]) ?_ ?_
    · rintro σ w2 ⟨rfl, rfl⟩
      refine au ?_
      refine pl_val dv rfl rfl (val_load1 hT rfl rfl rfl h.cellD) ?_
      refine au ?_
      refine pl_val _ rfl rfl (val_sliceTo m hT rfl (by rw [hdv]; rfl) rfl rfl rfl (by omega) w2) ?_
      refine au ?_
      refine rn_ind (fun q σ w' => ∃ j wv', q = m - j ∧ j ≤ m ∧ σ = [(5, .bool (decide (may < 0 ∨ may ≥ D.length))), (30, .slice da m dcap), (31, .int .i64 (m : Nat)), (32, .int .i64 (j : Nat))] ∧
          DiskV Bd w' d (doDeeds (D.take j) (S, L)).1 (doDeeds (D.take j) (S, L)).2 wv' ∧ Keep (fpD d wv) w2 w' ∧ ∀ k ∈ fpD d wv', k ∈ fpD d wv ∨ w2.heap.size ≤ k)
        (m - 0) _ ?_ ⟨0, wv, rfl, Nat.zero_le _, rfl, hd, Keep.refl _ _, fun k hk => .inl hk⟩ ?_
      · exact ⟨rfl, rfl, rfl, rfl, trivial⟩
      rintro q σ w3 ih ⟨j, wv', hq, hj, rfl, hd3, hk3, hf3⟩
      have h3 : ComV B w3 c s N K dv fvs D := h.keep hk3 (fpD_typ hd)
      have hs3 : StoreV w3 s d := hk3.blk hs fun hm => absurd (fpD_typ hd s hm _ _ hs) (by decide)
      refine au ?_
      rcases Nat.lt_or_ge j m with hlt | hge
      · refine pl_val (.bool true) rfl rfl (val_int .i64 _ _ _ rfl rfl rfl (by simp [intOp]; omega) w3) ?_
        refine au ?_
        obtain ⟨de, hde⟩ : ∃ de, D[j]? = some de := ⟨_, List.getElem?_eq_getElem (by omega)⟩
        obtain ⟨fv, hfv, hv⟩ := h3.fs j de hde
        obtain ⟨g', cap', hdv', hr⟩ := h3.own.range (q := j) (cs := [fv]) (by
          have hlt' : j < fvs.length := (List.getElem?_eq_some_iff.1 hfv).1
          rw [List.drop_eq_getElem_cons hlt', (List.getElem?_eq_some_iff.1 hfv).2]
          rfl) (by omega)
        have hda : da = some ⟨g', 0, none⟩ := by rw [hdv] at hdv'; injection hdv'
        refine pl_val _ rfl rfl (val_index j hT rfl (by rw [hda]; rfl) rfl rfl rfl hlt w3) ?_
        refine pl_val fv rfl rfl (val_load1 hT rfl rfl rfl (by rw [Nat.zero_add, Nat.mul_one]; exact hr 0 fv rfl)) ?_
        refine au ?_
        have hlen := doDeeds_len (D.take j) (S, L)
        rw [List.length_take] at hlen
        obtain ⟨g, cap, hfe, hcall, hret⟩ := deed_ret h3 hs3 hd3 (by have := Nat.min_le_right j D.length; simp only at hlen; omega) hv
        subst hfe
        refine pl_op rfl rfl (opTo_call (fst := []) (vs := []) (cap := cap) rfl rfl rfl rfl hcall (hret.mono ?_))
        rintro v w4 ⟨rfl, wv4, hd4, hk4, hf4⟩
        refine au ?_
        refine pl_val (.int .i64 ((j + 1 : Nat) : Int)) rfl rfl (val_int .i64 j 1 _ rfl rfl rfl (by simp only [intOp]; rw [wrap_i64 (by omega) (by omega)]; rfl) w4) ?_
        refine au ?_
        refine rn_sub ?_ (ih (m - (j + 1)) _ w4 (by omega) ⟨j + 1, wv4, rfl, hlt, rfl, by rw [doDeeds_snoc hde]; exact hd4, hk3.trans hk4 hf3, fun k hk => ?_⟩)
        · exact ⟨rfl, rfl, rfl, rfl, trivial⟩
        · rcases hf4 k hk with h1 | h1
          · exact hf3 k h1
          · exact .inr (Nat.le_trans hk3.size h1)
      · have hjm : j = m := by omega
        subst hjm
        refine pl_val (.bool false) rfl rfl (val_int .i64 _ _ _ rfl rfl rfl (by simp [intOp]) w3) ?_
        refine au ?_
        exact rn_ret Tryz.func148 (.inl ⟨_, rfl, rfl⟩) ⟨rfl, wv', hd3, hk3, hf3⟩
    intro hjoin
    refine rn_seq ?_
    refine rn_plain ?_
    refine pl_pure hT rfl rfl rfl ?_
    refine pl_nil ?_
    by_cases hdn : may < 0 ∨ may ≥ D.length
    · refine rn_true (by rw [decide_eq_true hdn]; rfl) ?_
      refine rn_plain ?_
      repeat (first | refine pl_pure hT rfl rfl rfl ?_)
      refine pl_val dv rfl rfl (val_load1 hT rfl rfl rfl h.cellD) ?_
      refine pl_val (.int .i64 D.length) rfl rfl (val_pure hT (by rw [hdv]; rfl) w1) ?_
      repeat (first | refine pl_pure hT rfl rfl rfl ?_ | refine pl_nil ?_)
      refine rn_sub ?_ (hjoin _ w1 ⟨rfl, rfl⟩)
      rw [show m = D.length by rw [hm, if_pos hdn]]
      exact ⟨rfl, rfl, rfl, trivial⟩
    · refine rn_false (by rw [decide_eq_false hdn]; rfl) ?_
      refine rn_skip ?_
      refine rn_sub ?_ (hjoin _ w1 ⟨rfl, rfl⟩)
      have hmi : ((m : Nat) : Int) = may := by rw [hm, if_neg hdn]; omega
      rw [hmi]
      exact ⟨rfl, rfl, rfl, trivial⟩
  intro hjoin
  refine rn_plain ?_
  refine pl_pure hT rfl rfl rfl ?_
  by_cases h0 : may < 0
  · refine pl_val (.bool true) rfl rfl (val_int .i64 may 0 _ rfl rfl rfl (by simp [intOp, h0]) w) ?_
    repeat (first | refine pl_pure hT rfl rfl rfl ?_ | refine pl_nil ?_ | refine pl_not rfl rfl ?_)
    refine rn_sub ?_ (hjoin _ w ⟨rfl, rfl⟩)
    rw [decide_eq_true (.inl h0)]
    exact ⟨rfl, rfl, rfl, trivial⟩
  · refine pl_val (.bool false) rfl rfl (val_int .i64 may 0 _ rfl rfl rfl (by simp [intOp, h0]) w) ?_
    repeat (first | refine pl_pure hT rfl rfl rfl ?_)
    refine pl_val dv rfl rfl (val_load1 hT rfl rfl rfl h.cellD) ?_
    refine pl_val (.int .i64 D.length) rfl rfl (val_pure hT (by rw [hdv]; rfl) w) ?_
    refine pl_val (.bool (decide (may ≥ D.length))) rfl rfl (val_int .i64 may D.length _ rfl rfl rfl (by simp only [intOp]) w) ?_
    repeat (first | refine pl_pure hT rfl rfl rfl ?_ | refine pl_nil ?_)
    refine rn_sub ?_ (hjoin _ w ⟨rfl, rfl⟩)
    rw [show decide (may < 0 ∨ may ≥ D.length) = decide (may ≥ D.length) by simp [h0]]
    exact ⟨rfl, rfl, rfl, trivial⟩
end
end E
end Go.Proofs.YtmplkogkphmmjafGreat

/- The contract of Commit. -/
namespace Go.Proofs.YtmplkogkphmmjafGreat
set_option maxRecDepth 20000
set_option maxHeartbeats 4000000
namespace E
open Go.Proofs

/-- What a commit plans: the next state, what is taken, the deeds. -/
structure Plan where
  N : List Int
  K : List Bool
  D : List Deed

def layP (x : Plan) (p : Pg) : Plan := ⟨x.N.set (3 + p.1.toNat) (freeK x.K : Nat), takeK x.K (freeK x.K : Nat), x.D ++ [some (((freeK x.K : Nat) : Int), p.2)]⟩
def layT (x : Plan) (j : Nat) : Plan := ⟨x.N.set (1 + j) (freeK x.K : Nat), takeK x.K (freeK x.K : Nat), x.D ++ [some (((freeK x.K : Nat) : Int), partW x.N j)]⟩
def planP (S : List Int) (ps : List Pg) : Plan := ps.foldl layP ⟨nextN S, takenK S, []⟩
def planT (S : List Int) (ps : List Pg) : Plan := layT (layT (planP S ps) 0) 1
def rootD (x : Plan) : Int × List Int := ((x.N.getD 0 0).tmod 2, rootW x.N)
def deedsOf (S : List Int) (ps : List Pg) : List Deed := (planT S ps).D ++ [none] ++ [some (rootD (planT S ps))] ++ [none]

theorem planP_snoc (S : List Int) {ps : List Pg} {j : Nat} {p : Pg} (h : ps[j]? = some p) : planP S (ps.take (j + 1)) = layP (planP S (ps.take j)) p := by
  have hlt : j < ps.length := (List.getElem?_eq_some_iff.1 h).1
  have hj : ps[j] = p := (List.getElem?_eq_some_iff.1 h).2
  rw [List.take_succ_eq_append_getElem hlt, hj, planP, List.foldl_append]
  rfl
theorem foldl_len (ps : List Pg) (x : Plan) : (ps.foldl layP x).D.length = x.D.length + ps.length := by
  induction ps generalizing x with
  | nil => rfl
  | cons p r ih =>
    rw [List.foldl_cons, ih]
    simp [layP]
    omega
theorem planP_len (S : List Int) (ps : List Pg) : (planP S ps).D.length = ps.length := by rw [planP, foldl_len]; simp
theorem deedsOf_len (S : List Int) (ps : List Pg) : (deedsOf S ps).length = ps.length + 5 := by simp [deedsOf, planT, layT, planP_len]

theorem chkFrom_ok {ps : List Pg} : ∀ {done : List Int}, chkFrom done ps = 0 → ∀ p ∈ ps, hasP p.1 = true := by
  induction ps with
  | nil => simp
  | cons p r ih =>
    intro done h q hq
    unfold chkFrom at h
    split at h
    · cases h
    · rename_i h1
      split at h
      · cases h
      · rcases List.mem_cons.1 hq with rfl | hq
        · simpa using h1
        · exact ih h q hq

section
variable {B Bp : Nat} {w : World} {s d : Nat} {pv : Value} {ps : List Pg} {S : List Int} {L : List Wr} {wv : Value}

theorem commit_bad (hp : Pgs Bp w pv ps) (hlen : ps.length < 1000) (may : Int) (hc : chk ps ≠ 0) :
    Ret Tryz.prog 136 [.pointer (some ⟨s, 0, none⟩), pv, .int .i64 may] w fun v w' => v = .tuple #[.bool false, .int .i64 (chk ps)] ∧ Keep [] w w' := by
  refine ret_of 72 Tryz.func136 rfl rfl (by simp) ?_
  refine au ?_
  refine pl_op rfl rfl (opTo_call rfl rfl rfl rfl (by decide +kernel) ((sCheck_ret hp (by omega)).mono ?_))
  rintro v w1 ⟨rfl, hk1⟩
  refine au ?_
  refine pl_val (.bool true) rfl rfl (val_int .i64 _ 0 _ rfl rfl rfl (by simp [intOp, hc]) w1) ?_
  refine au ?_
  exact rn_ret Tryz.func136 (.inr (.inr (.inr (.inr ⟨_, _, _, _, rfl, rfl, rfl, rfl⟩)))) ⟨rfl, hk1⟩

theorem commit_ret (hs : StoreV w s d) (hd : DiskV B w d S L wv) (hp : Pgs Bp w pv ps) (hlen : ps.length < 900) (hL : L.length < 900) (hg0 : 0 ≤ genS S) (hg1 : genS S < 1000000) (may : Int) (hc : chk ps = 0)
    (m : Nat) (hm : m = if may < 0 ∨ may ≥ (ps.length + 5 : Nat) then ps.length + 5 else may.toNat) :
    Ret Tryz.prog 136 [.pointer (some ⟨s, 0, none⟩), pv, .int .i64 may] w fun v w' => v = .tuple #[.bool (decide (may < 0 ∨ may ≥ (ps.length + 5 : Nat))), .int .i64 0] ∧
      ∃ wv', DiskV B w' d (doDeeds ((deedsOf S ps).take m) (S, L)).1 (doDeeds ((deedsOf S ps).take m) (S, L)).2 wv' ∧ Keep (fpD d wv) w w' ∧ ∀ k ∈ fpD d wv', k ∈ fpD d wv ∨ w.heap.size ≤ k := by
  refine ret_of 72 Tryz.func136 rfl rfl (by simp) ?_
  refine au ?_
  refine pl_op rfl rfl (opTo_call rfl rfl rfl rfl (by decide +kernel) ((sCheck_ret hp (by omega)).mono ?_))
  rintro v w1 ⟨rfl, hk1⟩
  rw [hc]
  refine au ?_
  refine pl_val (.bool false) rfl rfl (val_int .i64 _ 0 _ rfl rfl rfl rfl w1) ?_
  refine au ?_
  have hs1 : StoreV w1 s d := hk1.blk hs (by simp)
  refine pl_op rfl rfl (opTo_call rfl rfl rfl rfl (by decide +kernel) ((begin_ret hs1 (hd.keep hk1 (by simp)) hg0 hg1).mono ?_))
  rintro v w2 ⟨c, rfl, h2, hk2⟩
  have hkw2 := hk1.tr0 hk2
  have hB1 : w.heap.size ≤ w1.heap.size := hk1.size
  generalize w1.heap.size = C at *
  clear hs1 hk1 hk2
  refine au ?_
  obtain ⟨pa, pcap, hpv, _⟩ := hp.ex
  refine pl_val (.int .i64 ps.length) rfl rfl (val_pure hT (by rw [hpv]; rfl) w2) ?_
  refine au ?_
  refine rn_ind (fun q σ w' => ∃ j dv fvs, q = ps.length - j ∧ j ≤ ps.length ∧ σ = [(2, .int .i64 may), (9, .pointer (some ⟨c, 0, none⟩)), (20, pv), (21, .int .i64 ps.length), (22, .int .i64 (j : Nat))] ∧
      Keep [] w w' ∧ ComV C w' c s (planP S (ps.take j)).N (planP S (ps.take j)).K dv fvs (planP S (ps.take j)).D)
    (ps.length - 0) _ ?_ ⟨0, _, _, rfl, Nat.zero_le _, rfl, hkw2, h2⟩ ?_
  · exact ⟨rfl, rfl, rfl, rfl, rfl, trivial⟩
  clear h2 hkw2
  rintro q σ w3 ih ⟨j, dv, fvs, hq, hj, rfl, hk3, h3⟩
  refine au ?_
  rcases Nat.lt_or_ge j ps.length with hlt | hge
  · refine pl_val (.bool true) rfl rfl (val_int .i64 _ _ _ rfl rfl rfl (by simp [intOp]; omega) w3) ?_
    refine au ?_
    obtain ⟨p, hpj⟩ : ∃ p, ps[j]? = some p := ⟨_, List.getElem?_eq_getElem hlt⟩
    have hpm := List.mem_of_getElem? hpj
    have h8 := hp.wf p hpm
    have hhas := chkFrom_ok hc p hpm
    have hi : 0 ≤ p.1 ∧ p.1 < 14 := by simpa [hasP] using hhas
    obtain ⟨b, o, cap, hv', _, hr⟩ := (hp.keep hk3 (by simp)).at hpj
    refine pl_val _ rfl rfl (val_index j hT rfl (by rw [hv']; rfl) rfl rfl rfl hlt w3) ?_
    refine pl_val (.agg (pcell p).toArray) rfl rfl (val_load _ hT rfl rfl (by rw [pcell_length h8]; rfl) hr) ?_
    refine pl_op rfl rfl (opTo_alloc _ rfl zero_page ?_)
    have hk4 := hk3.alloc (.cells (pcell (0, List.replicate 8 0)).toArray 204)
    have hx4 := Blk.new w3 (pcell (0, List.replicate 8 0)) 204
    have hk34 : Keep [] w3 (w3.alloc (.cells (pcell (0, List.replicate 8 0)).toArray 204)) := (Keep.refl _ _).alloc _
    have hsz := hk3.size
    generalize (w3.alloc (.cells (pcell (0, List.replicate 8 0)).toArray 204)) = w4 at *
    refine au ?_
    refine pl_op rfl rfl (opTo_store _ rfl rfl rfl rfl (by rw [pcell_length h8]; decide +kernel) hx4 (by rw [pcell_length h8]; decide) (pcell_one _) ?_)
    rw [splice_all (by rw [pcell_length h8]; rfl)]
    have hk5 := hk4.setRow w3.heap.size (pcell p).toArray (.inr hsz)
    have hx5 := hx4.set (pcell p)
    have hk35 := hk34.setRow w3.heap.size (pcell p).toArray (.inr (Nat.le_refl _))
    have h5 := h3.keep0 hk35
    generalize (w4.setRow w3.heap.size (pcell p).toArray) = w5 at *
    generalize w3.heap.size = x at hx5 ⊢
    clear hk4 hx4 hk34 hk35 h3 hk3
    refine au ?_
    have hS0 : Blk w5.drew x (pcell p) 204 := hx5
    refine rn_draw (fun w' => Blk w' x (pcell p) 204) [11] hMix ?_
    refine tk 0 ?_
    refine tk 1 ?_
    refine dr_val 2 (.int .i64 p.1) rfl (by decide +kernel) rfl rfl (fun w' hk => val_load1 hT rfl rfl rfl (hk.cell rfl)) hS0 ?_
    refine tk 3 ?_
    refine tk 4 ?_
    refine dr_val 5 (.agg (ints p.2).toArray) rfl (by decide +kernel) rfl rfl (fun w' hk => val_load _ hT rfl rfl (by rw [ints_length, h8]; rfl) (hk.range (by simp [pcell]))) hS0 ?_
    refine tk 7 ?_
    refine tk 8 ?_
    refine tk 9 ?_
    have h6 := h5.keep0 ((Keep.refl [] w5).drew)
    have hDl : (planP S (ps.take j)).D.length < 1000 := by rw [planP_len, List.length_take]; omega
    refine dr_op 6 rfl (by decide +kernel) rfl rfl (opTo_call rfl rfl rfl rfl (by decide +kernel) ((lay_ret h6 hDl h8).mono ?_))
    rintro v w7 ⟨rfl, ⟨dv7, fvs7, h7⟩, ht7⟩
    refine ⟨fun _ => ht7.typ _ _ _ hS0 (by decide), ?_⟩
    refine dr_any 10 _ rfl (by decide +kernel) rfl rfl (fun w' => val_indexArr p.1.toNat hT rfl rfl rfl rfl (by omega) (by omega) w') ?_
    refine dr_op 11 rfl (by decide +kernel) rfl rfl (opTo_store [.int .i64 (freeK (planP S (ps.take j)).K : Nat)] rfl rfl rfl rfl (by kernel_rfl) h7.blk (by rw [ccells_length h7.nlen h7.klen]; simp; omega) (by simp; rfl) ⟨fun hn => absurd (by simp) hn, ?_⟩)
    have h17 := h7.nlen
    rw [show splice (ccells s (planP S (ps.take j)).N (takeK (planP S (ps.take j)).K (freeK (planP S (ps.take j)).K : Nat)) dv7) (0 + 1 + 3 + p.1.toNat * 1) [.int .i64 (freeK (planP S (ps.take j)).K : Nat)] =
        ccells s (planP S (ps.take (j + 1))).N (planP S (ps.take (j + 1))).K dv7 by
      rw [planP_snoc S hpj, show 0 + 1 + 3 + p.1.toNat * 1 = 1 + (3 + p.1.toNat) by omega, ccells_setN _ _ (by omega)]
      rfl]
    obtain ⟨h8', ht8, _⟩ := h7.put (planP S (ps.take (j + 1))).N (planP S (ps.take (j + 1))).K (by rw [planP_snoc S hpj]; simp [layP, h17]) (by rw [planP_snoc S hpj]; exact h7.klen)
    refine dr_done (by decide +kernel) ?_
    have hk8 := ht8.keep (ht7.keep (hk5.drew) hB1) hB1
    generalize (w7.setRow c (ccells s (planP S (ps.take (j + 1))).N (planP S (ps.take (j + 1))).K dv7).toArray) = w8 at *
    refine au ?_
    refine pl_val (.int .i64 ((j + 1 : Nat) : Int)) rfl rfl (val_int .i64 j 1 _ rfl rfl rfl (by simp only [intOp]; rw [wrap_i64 (by omega) (by omega)]; rfl) w8) ?_
    refine au ?_
    refine rn_sub ?_ (ih (ps.length - (j + 1)) _ w8 (by omega) ⟨j + 1, dv7, fvs7, rfl, hlt, rfl, hk8, ?_⟩)
    · exact ⟨rfl, rfl, rfl, rfl, rfl, trivial⟩
    · rw [show (planP S (ps.take (j + 1))).D = (planP S (ps.take j)).D ++ [some (((freeK (planP S (ps.take j)).K : Nat) : Int), p.2)] by rw [planP_snoc S hpj]; rfl]
      exact h8'
  refine pl_val (.bool false) rfl rfl (val_int .i64 _ _ _ rfl rfl rfl (by simp [intOp]; omega) w3) ?_
  clear ih
  rw [List.take_of_length_le hge] at h3
  refine au ?_
  refine rn_ind (fun q σ w' => ∃ j dv fvs X, q = 2 - j ∧ j ≤ 2 ∧ σ = [(2, .int .i64 may), (9, .pointer (some ⟨c, 0, none⟩)), (38, .int .i64 (j : Nat))] ∧
      Keep [] w w' ∧ ComV C w' c s X.N X.K dv fvs X.D ∧ X = ([0, 1].take j).foldl layT (planP S ps))
    (2 - 0) _ ?_ ⟨0, _, _, planP S ps, rfl, Nat.zero_le _, rfl, hk3, h3, rfl⟩ ?_
  · exact ⟨rfl, rfl, rfl, trivial⟩
  clear h3 hk3
  rintro q σ w3 ih ⟨j, dv, fvs, X, hq, hj, rfl, hk3, h3, hX⟩
  have hDX : X.D.length = ps.length + j := by
    have : j = 0 ∨ j = 1 ∨ j = 2 := by omega
    rcases this with rfl | rfl | rfl <;> rw [hX] <;> simp [layT, planP_len]
  refine au ?_
  rcases Nat.lt_or_ge j 2 with hlt | hge
  · refine pl_val (.bool true) rfl rfl (val_int .i64 _ _ _ rfl rfl rfl (by simp [intOp]; omega) w3) ?_
    refine au ?_
    refine rn_draw (fun w' => True) [] hMix ?_
    refine tk 0 ?_
    refine tk 1 ?_
    refine tk 2 ?_
    refine tk 3 ?_
    refine tk 4 ?_
    refine tk 5 ?_
    refine tk 6 ?_
    refine tk 9 ?_
    refine tk 10 ?_
    refine tk 11 ?_
    have h4 := h3.keep0 ((Keep.refl [] w3).drew)
    refine dr_op 7 rfl (by decide +kernel) rfl rfl (opTo_call rfl rfl rfl rfl (by decide +kernel) ((partWords_ret h4 j hlt).mono ?_))
    rintro v w5 ⟨rfl, hk5⟩
    refine ⟨fun _ => trivial, ?_⟩
    have h5 := h4.keep0 hk5
    refine dr_op 8 rfl (by decide +kernel) rfl rfl (opTo_call rfl rfl rfl rfl (by decide +kernel) ((lay_ret h5 (by omega) (partW_length h3.nlen j)).mono ?_))
    rintro v w7 ⟨rfl, ⟨dv7, fvs7, h7⟩, ht7⟩
    refine ⟨fun _ => trivial, ?_⟩
    have h17 := h7.nlen
    refine dr_any 12 _ rfl (by decide +kernel) rfl rfl (fun w' => val_indexArr j hT rfl rfl rfl rfl rfl hlt w') ?_
    refine dr_op 13 rfl (by decide +kernel) rfl rfl (opTo_store [.int .i64 (freeK X.K : Nat)] rfl rfl rfl rfl (by kernel_rfl) h7.blk (by rw [ccells_length h7.nlen h7.klen]; simp; omega) (by simp; rfl) ⟨fun _ => trivial, ?_⟩)
    rw [show splice (ccells s X.N (takeK X.K (freeK X.K : Nat)) dv7) (0 + 1 + 1 + j * 1) [.int .i64 (freeK X.K : Nat)] = ccells s (layT X j).N (layT X j).K dv7 by
      rw [show 0 + 1 + 1 + j * 1 = 1 + (1 + j) by omega, ccells_setN _ _ (by omega)]
      rfl]
    obtain ⟨h8', ht8, _⟩ := h7.put (layT X j).N (layT X j).K (by simp [layT, h17]) h7.klen
    refine dr_done (by decide +kernel) ?_
    have hk8 := ht8.keep (ht7.keep ((hk3.drew).tr0 hk5) hB1) hB1
    generalize (w7.setRow c (ccells s (layT X j).N (layT X j).K dv7).toArray) = w8 at *
    refine au ?_
    refine pl_val (.int .i64 ((j + 1 : Nat) : Int)) rfl rfl (val_int .i64 j 1 _ rfl rfl rfl (by simp only [intOp]; rw [wrap_i64 (by omega) (by omega)]; rfl) w8) ?_
    refine au ?_
    refine rn_sub ?_ (ih (2 - (j + 1)) _ w8 (by omega) ⟨j + 1, dv7, fvs7, layT X j, rfl, hlt, rfl, hk8, h8', ?_⟩)
    · exact ⟨rfl, rfl, rfl, trivial⟩
    · have : j = 0 ∨ j = 1 := by omega
      rcases this with rfl | rfl <;> rw [hX] <;> rfl
  have hj2 : j = 2 := by omega
  subst hj2
  clear ih hge hj
  replace hX : X = planT S ps := hX
  subst hX
  refine pl_val (.bool false) rfl rfl (val_int .i64 _ _ _ rfl rfl rfl (by simp [intOp]) w3) ?_
  refine au ?_
  refine pl_op rfl rfl (opTo_call rfl rfl rfl rfl (by decide +kernel) ((cflush_ret h3 (by omega)).mono ?_))
  rintro v w4 ⟨rfl, ⟨dv4, fvs4, h4⟩, ht4⟩
  have hk4 := ht4.keep hk3 hB1
  refine au ?_
  refine rn_draw (fun w' => True) [] hMix ?_
  refine tk 0 ?_
  refine tk 1 ?_
  refine tk 2 ?_
  refine tk 3 ?_
  refine tk 5 ?_
  refine tk 6 ?_
  refine tk 7 ?_
  have h5 := h4.keep0 ((Keep.refl [] w4).drew)
  refine dr_op 4 rfl (by decide +kernel) rfl rfl (opTo_call rfl rfl rfl rfl (by decide +kernel) ((rootAt_ret h5).mono ?_))
  rintro v w5 ⟨rfl, rfl⟩
  refine ⟨fun _ => trivial, ?_⟩
  refine dr_op 8 rfl (by decide +kernel) rfl rfl (opTo_call rfl rfl rfl rfl (by decide +kernel) ((rootWords_ret h5).mono ?_))
  rintro v w6 ⟨rfl, hk6⟩
  refine ⟨fun _ => trivial, ?_⟩
  have h6 := h5.keep0 hk6
  have hkw6 := (hk4.drew).tr0 hk6
  refine dr_op 9 rfl (by decide +kernel) rfl rfl (opTo_call rfl rfl rfl rfl (by decide +kernel) ((cwrite_ret h6 (by simp; omega) ((planT S ps).N.getD 0 0 |>.tmod 2) (ws := rootW (planT S ps).N) rfl).mono ?_))
  rintro v w7 ⟨rfl, ⟨dv7, fvs7, h7⟩, ht7⟩
  refine ⟨fun _ => trivial, ?_⟩
  refine dr_done (by decide +kernel) ?_
  have hk7 := ht7.keep hkw6 hB1
  refine au ?_
  refine pl_op rfl rfl (opTo_call rfl rfl rfl rfl (by decide +kernel) ((cflush_ret h7 (by simp; omega)).mono ?_))
  rintro v w8 ⟨rfl, ⟨dv8, fvs8, h8⟩, ht8⟩
  have hk8 := ht8.keep hk7 hB1
  refine au ?_
  have h9 : ComV C w8 c s (planT S ps).N (planT S ps).K dv8 fvs8 (deedsOf S ps) := h8
  have hdl := deedsOf_len S ps
  have hd8 := hd.keep hk8 (by simp)
  have hs8 : StoreV w8 s d := hk8.blk hs (by simp)
  refine pl_op rfl rfl (opTo_call rfl rfl rfl rfl (by decide +kernel) ((do_ret h9 hs8 hd8 (by rw [hdl]; omega) may m (by rw [hdl]; exact hm)).mono ?_))
  rintro v w9 ⟨rfl, wv', hd9, hk9, hf9⟩
  rw [hdl]
  refine au ?_
  refine rn_ret Tryz.func136 (.inr (.inr (.inr (.inr ⟨_, _, _, _, rfl, rfl, rfl, rfl⟩)))) ⟨rfl, wv', hd9, (hk8.of0).tr hk9, fun k hk => ?_⟩
  rcases hf9 k hk with h1 | h1
  · exact .inl h1
  · exact .inr (Nat.le_trans hk8.size h1)
end
end E
end Go.Proofs.YtmplkogkphmmjafGreat
