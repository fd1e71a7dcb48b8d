/- Several texts in one: MwE, MwF, MwG, LzN. -/
import Derived.Test.YtmplkogkphmmjagGreatJ12
import Derived.Test.YtmplkogkphmmjagGreatJ02
import Derived.Test.YtmplkogkphmmjagGreatJ03
import Derived.Test.YtmplkogkphmmjagGreatJ06
/- The landed machine: do, an instruction each. -/
namespace Go.Proofs.YtmplkogkphmmjagGreat
set_option maxRecDepth 20000
set_option maxHeartbeats 4000000
namespace E
open Go.Proofs

/-- What is left behind a commit that was left off: the disk, as it waits for a crash; the printer. -/
def TnD (Y : Nat → List Int → Prop) (E : List Int → Prop) (R : Nat → Prop) (B : Nat) (w w' : World) (fp : List Nat) (O : Mo) : Prop :=
  ∃ d S W D wv pv, E W ∧ Y d S ∧ W.length = 112 ∧ Good S ∧ Tied S W D ∧ genS S = O.gen ∧
    DiskV B w' d (doDeeds ((deedsOf S (dirtyPs W D)).take (((dirtyPs W D).length : Int) + 5 - O.left).toNat) (S, [])).1 (doDeeds ((deedsOf S (dirtyPs W D)).take (((dirtyPs W D).length : Int) + 5 - O.left).toNat) (S, [])).2 wv ∧
    Pv R B w' O.q pv O.pr ∧ (∀ k ∈ fpD d wv, k ∈ fp ∨ w.heap.size ≤ k) ∧ ∀ k ∈ O.q :: obs pv, k ∈ fp
/-- So a machine stands when its next instruction was counted. -/
abbrev Mx.at (M : Mx) (a : Md) : Mx := { M with md := { a with next := a.next + 1 } }
section
variable {Y : Nat → List Int → Prop} {Z : List Int} {R : Nat → Prop} {B : Nat} {w : World} {x : Nat} {fp : List Nat} {M : Mx} {a : Md} {A K N : Int}
theorem mdo_num (h : Vm Y Z R B w x fp (M.at a)) (hs : a.stack.length ≤ 24) (hc : a.cells.length ≤ 48) :
    Ret Tryz.prog 61 [.pointer (some ⟨x, 0, none⟩), .agg (iC (1, A, K, N)).toArray] w fun r w' => r = .tuple #[] ∧ Dn Y Z R B w w' x fp { M with md := { a with next := a.next + 1, stack := a.stack ++ [N] } } := by
  refine ret_of 104 Tryz.func61 rfl rfl (by simp) ?_
  refine au ?_
  refine pl_op rfl rfl (opTo_boxN (iC (1, A, K, N)) rfl rfl rfl ?_)
  intro w1 x1 hx1 hs1 hk1 hb1
  have hml := (h.lt _ h.mIn).2.1
  have hmx : x1 ∉ [M.m] := by
    intro hm
    have hm : x1 = (M.at a).o.m := List.mem_singleton.1 hm
    omega
  have h1 := Vx.keep0 h hk1
  refine au ?_
  refine pl_val _ rfl rfl (val_load1 hT rfl rfl rfl (hb1.cell rfl)) ?_
  refine aub ?_
  refine pl_op rfl rfl (opTo_call (fst := []) (cap := []) rfl rfl rfl rfl (by decide +kernel) ((mpush_ret h1 (by show a.stack.length ≤ 58; omega) hc N).mono ?_))
  rintro r w2 ⟨rfl, h2, hk2⟩
  refine au ?_
  exact rn_end Tryz.func61 (.inr (.inl ⟨rfl, rfl⟩)) ⟨rfl, Dn.late hk1 (Dn.ofP (M := M) h2 h.mIn hk2)⟩

theorem mdo_var (h : Vm Y Z R B w x fp (M.at a)) (hs : a.stack.length ≤ 24) (hc : a.cells.length ≤ 48) (h0 : 0 ≤ A) (hA : A < (a.cells.length : Int)) :
    Ret Tryz.prog 61 [.pointer (some ⟨x, 0, none⟩), .agg (iC (2, A, K, N)).toArray] w fun r w' => r = .tuple #[] ∧ Dn Y Z R B w w' x fp { M with md := { a with next := a.next + 1, stack := a.stack ++ [cellAt a.cells A] } } := by
  refine ret_of 104 Tryz.func61 rfl rfl (by simp) ?_
  refine au ?_
  refine pl_op rfl rfl (opTo_boxN (iC (2, A, K, N)) rfl rfl rfl ?_)
  intro w1 x1 hx1 hs1 hk1 hb1
  have hml := (h.lt _ h.mIn).2.1
  have hmx : x1 ∉ [M.m] := by
    intro hm
    have hm : x1 = (M.at a).o.m := List.mem_singleton.1 hm
    omega
  have h1 := Vx.keep0 h hk1
  refine au ?_
  refine pl_val _ rfl rfl (val_load1 hT rfl rfl rfl (hb1.cell rfl)) ?_
  obtain ⟨k, rfl⟩ : ∃ k : Nat, A = (k : Nat) := ⟨A.toNat, by omega⟩
  refine aub ?_
  refine pl_op rfl rfl (opTo_call (fst := []) (cap := []) rfl rfl rfl rfl (by decide +kernel) ((mcell_at h1 hc (a := k) (by show k < a.cells.length; omega)).mono ?_))
  rintro r w1' ⟨rfl, hww⟩
  rw [hww]
  refine pl_op rfl rfl (opTo_call (fst := []) (cap := []) rfl rfl rfl rfl (by decide +kernel) ((mpush_ret h1 (by show a.stack.length ≤ 58; omega) hc _).mono ?_))
  rintro r w2 ⟨rfl, h2, hk2⟩
  refine au ?_
  exact rn_end Tryz.func61 (.inr (.inl ⟨rfl, rfl⟩)) ⟨rfl, Dn.late hk1 (Dn.ofP (M := M) h2 h.mIn hk2)⟩

theorem mdo_get (h : Vm Y Z R B w x fp (M.at a)) (h1s : 1 ≤ a.stack.length) (hs : a.stack.length ≤ 24) (hc : a.cells.length ≤ 48) (h0 : 0 ≤ A) (hA : A + K ≤ (a.cells.length : Int)) :
    Ret Tryz.prog 61 [.pointer (some ⟨x, 0, none⟩), .agg (iC (3, A, K, N)).toArray] w fun r w' => r = .tuple #[] ∧ Dn Y Z R B w w' x fp { M with md := if 0 ≤ topS a.stack ∧ topS a.stack < K then { a with next := a.next + 1, stack := a.stack.dropLast ++ [cellAt a.cells (A + topS a.stack)] } else { a with next := a.next + 1, stack := a.stack.dropLast, state := 13 } } := by
  refine ret_of 104 Tryz.func61 rfl rfl (by simp) ?_
  refine au ?_
  refine pl_op rfl rfl (opTo_boxN (iC (3, A, K, N)) rfl rfl rfl ?_)
  intro w1 x1 hx1 hs1 hk1 hb1
  have hml := (h.lt _ h.mIn).2.1
  have hmx : x1 ∉ [M.m] := by
    intro hm
    have hm : x1 = (M.at a).o.m := List.mem_singleton.1 hm
    omega
  have h1 := Vx.keep0 h hk1
  refine au ?_
  refine pl_val _ rfl rfl (val_load1 hT rfl rfl rfl (hb1.cell rfl)) ?_
  refine aub ?_
  refine pl_val (.agg (iC (3, A, K, N)).toArray) rfl rfl (val_load (iC (3, A, K, N)) hT rfl rfl rfl (hb1.range (by rfl))) ?_
  refine pl_op rfl rfl (opTo_call (fst := []) (cap := []) rfl rfl rfl rfl (by decide +kernel) ((mgetCell_ret h1 (3, A, K, N) h1s hs hc h0 hA).mono ?_))
  rintro r w2 ⟨rfl, hk2, h2⟩
  refine au ?_
  exact rn_end Tryz.func61 (.inr (.inl ⟨rfl, rfl⟩)) ⟨rfl, Dn.late hk1 (Dn.ofP (M := M) h2 h.mIn hk2)⟩

theorem mdo_add (h : Vm Y Z R B w x fp (M.at a)) (h2s : 2 ≤ a.stack.length) (hs : a.stack.length ≤ 24) (hc : a.cells.length ≤ 48) :
    Ret Tryz.prog 61 [.pointer (some ⟨x, 0, none⟩), .agg (iC (4, A, K, N)).toArray] w fun r w' => r = .tuple #[] ∧ Dn Y Z R B w w' x fp { M with md := { a with next := a.next + 1, stack := a.stack.dropLast.dropLast ++ [ariI 4 (topS a.stack.dropLast) (topS a.stack)] } } := by
  refine ret_of 104 Tryz.func61 rfl rfl (by simp) ?_
  refine au ?_
  refine pl_op rfl rfl (opTo_boxN (iC (4, A, K, N)) rfl rfl rfl ?_)
  intro w1 x1 hx1 hs1 hk1 hb1
  have hml := (h.lt _ h.mIn).2.1
  have hmx : x1 ∉ [M.m] := by
    intro hm
    have hm : x1 = (M.at a).o.m := List.mem_singleton.1 hm
    omega
  have h1 := Vx.keep0 h hk1
  refine au ?_
  refine pl_val _ rfl rfl (val_load1 hT rfl rfl rfl (hb1.cell rfl)) ?_
  refine aub ?_
  refine pl_op rfl rfl (opTo_call (fst := []) (cap := []) rfl rfl rfl rfl (by decide +kernel) ((mpop_ret h1 (by show 1 ≤ a.stack.length; omega) (by show a.stack.length ≤ 59; omega)).mono ?_))
  rintro r w2 ⟨rfl, h2, hk2⟩
  refine au ?_
  refine pl_op rfl rfl (opTo_call (fst := []) (cap := []) rfl rfl rfl rfl (by decide +kernel) ((mpop_ret h2 (by show 1 ≤ a.stack.dropLast.length; rw [List.length_dropLast]; omega) (by show a.stack.dropLast.length ≤ 59; rw [List.length_dropLast]; omega)).mono ?_))
  rintro r w3 ⟨rfl, h3, hk3⟩
  have hk13 : Keep [M.m] w1 w3 := hk2.tr hk3
  have hb3 := hk13.blk hb1 hmx
  clear hb1
  refine au ?_
  refine pl_val _ rfl rfl (val_load1 hT rfl rfl rfl (hb3.cell rfl)) ?_
  refine au ?_
  refine pl_op rfl rfl (opTo_call (fst := []) (cap := []) rfl rfl rfl rfl (by decide +kernel) ((mreckon_ret 4 (topS a.stack.dropLast) (topS a.stack) (by decide) w3).mono ?_))
  rintro r w3' ⟨rfl, hww⟩
  rw [hww]
  refine pl_op rfl rfl (opTo_call (fst := []) (cap := []) rfl rfl rfl rfl (by decide +kernel) ((mpush_ret h3 (by show a.stack.dropLast.dropLast.length ≤ 58; simp only [List.length_dropLast]; omega) hc _).mono ?_))
  rintro r w4 ⟨rfl, h4, hk4⟩
  refine au ?_
  exact rn_end Tryz.func61 (.inr (.inl ⟨rfl, rfl⟩)) ⟨rfl, Dn.late hk1 (Dn.ofP (M := M) h4 h.mIn (hk13.tr hk4))⟩

theorem mdo_sub (h : Vm Y Z R B w x fp (M.at a)) (h2s : 2 ≤ a.stack.length) (hs : a.stack.length ≤ 24) (hc : a.cells.length ≤ 48) :
    Ret Tryz.prog 61 [.pointer (some ⟨x, 0, none⟩), .agg (iC (5, A, K, N)).toArray] w fun r w' => r = .tuple #[] ∧ Dn Y Z R B w w' x fp { M with md := { a with next := a.next + 1, stack := a.stack.dropLast.dropLast ++ [ariI 5 (topS a.stack.dropLast) (topS a.stack)] } } := by
  refine ret_of 104 Tryz.func61 rfl rfl (by simp) ?_
  refine au ?_
  refine pl_op rfl rfl (opTo_boxN (iC (5, A, K, N)) rfl rfl rfl ?_)
  intro w1 x1 hx1 hs1 hk1 hb1
  have hml := (h.lt _ h.mIn).2.1
  have hmx : x1 ∉ [M.m] := by
    intro hm
    have hm : x1 = (M.at a).o.m := List.mem_singleton.1 hm
    omega
  have h1 := Vx.keep0 h hk1
  refine au ?_
  refine pl_val _ rfl rfl (val_load1 hT rfl rfl rfl (hb1.cell rfl)) ?_
  refine aub ?_
  refine pl_op rfl rfl (opTo_call (fst := []) (cap := []) rfl rfl rfl rfl (by decide +kernel) ((mpop_ret h1 (by show 1 ≤ a.stack.length; omega) (by show a.stack.length ≤ 59; omega)).mono ?_))
  rintro r w2 ⟨rfl, h2, hk2⟩
  refine au ?_
  refine pl_op rfl rfl (opTo_call (fst := []) (cap := []) rfl rfl rfl rfl (by decide +kernel) ((mpop_ret h2 (by show 1 ≤ a.stack.dropLast.length; rw [List.length_dropLast]; omega) (by show a.stack.dropLast.length ≤ 59; rw [List.length_dropLast]; omega)).mono ?_))
  rintro r w3 ⟨rfl, h3, hk3⟩
  have hk13 : Keep [M.m] w1 w3 := hk2.tr hk3
  have hb3 := hk13.blk hb1 hmx
  clear hb1
  refine au ?_
  refine pl_val _ rfl rfl (val_load1 hT rfl rfl rfl (hb3.cell rfl)) ?_
  refine au ?_
  refine pl_op rfl rfl (opTo_call (fst := []) (cap := []) rfl rfl rfl rfl (by decide +kernel) ((mreckon_ret 5 (topS a.stack.dropLast) (topS a.stack) (by decide) w3).mono ?_))
  rintro r w3' ⟨rfl, hww⟩
  rw [hww]
  refine pl_op rfl rfl (opTo_call (fst := []) (cap := []) rfl rfl rfl rfl (by decide +kernel) ((mpush_ret h3 (by show a.stack.dropLast.dropLast.length ≤ 58; simp only [List.length_dropLast]; omega) hc _).mono ?_))
  rintro r w4 ⟨rfl, h4, hk4⟩
  refine au ?_
  exact rn_end Tryz.func61 (.inr (.inl ⟨rfl, rfl⟩)) ⟨rfl, Dn.late hk1 (Dn.ofP (M := M) h4 h.mIn (hk13.tr hk4))⟩

theorem mdo_mul (h : Vm Y Z R B w x fp (M.at a)) (h2s : 2 ≤ a.stack.length) (hs : a.stack.length ≤ 24) (hc : a.cells.length ≤ 48) :
    Ret Tryz.prog 61 [.pointer (some ⟨x, 0, none⟩), .agg (iC (6, A, K, N)).toArray] w fun r w' => r = .tuple #[] ∧ Dn Y Z R B w w' x fp { M with md := { a with next := a.next + 1, stack := a.stack.dropLast.dropLast ++ [ariI 6 (topS a.stack.dropLast) (topS a.stack)] } } := by
  refine ret_of 104 Tryz.func61 rfl rfl (by simp) ?_
  refine au ?_
  refine pl_op rfl rfl (opTo_boxN (iC (6, A, K, N)) rfl rfl rfl ?_)
  intro w1 x1 hx1 hs1 hk1 hb1
  have hml := (h.lt _ h.mIn).2.1
  have hmx : x1 ∉ [M.m] := by
    intro hm
    have hm : x1 = (M.at a).o.m := List.mem_singleton.1 hm
    omega
  have h1 := Vx.keep0 h hk1
  refine au ?_
  refine pl_val _ rfl rfl (val_load1 hT rfl rfl rfl (hb1.cell rfl)) ?_
  refine aub ?_
  refine pl_op rfl rfl (opTo_call (fst := []) (cap := []) rfl rfl rfl rfl (by decide +kernel) ((mpop_ret h1 (by show 1 ≤ a.stack.length; omega) (by show a.stack.length ≤ 59; omega)).mono ?_))
  rintro r w2 ⟨rfl, h2, hk2⟩
  refine au ?_
  refine pl_op rfl rfl (opTo_call (fst := []) (cap := []) rfl rfl rfl rfl (by decide +kernel) ((mpop_ret h2 (by show 1 ≤ a.stack.dropLast.length; rw [List.length_dropLast]; omega) (by show a.stack.dropLast.length ≤ 59; rw [List.length_dropLast]; omega)).mono ?_))
  rintro r w3 ⟨rfl, h3, hk3⟩
  have hk13 : Keep [M.m] w1 w3 := hk2.tr hk3
  have hb3 := hk13.blk hb1 hmx
  clear hb1
  refine au ?_
  refine pl_val _ rfl rfl (val_load1 hT rfl rfl rfl (hb3.cell rfl)) ?_
  refine au ?_
  refine pl_op rfl rfl (opTo_call (fst := []) (cap := []) rfl rfl rfl rfl (by decide +kernel) ((mreckon_ret 6 (topS a.stack.dropLast) (topS a.stack) (by decide) w3).mono ?_))
  rintro r w3' ⟨rfl, hww⟩
  rw [hww]
  refine pl_op rfl rfl (opTo_call (fst := []) (cap := []) rfl rfl rfl rfl (by decide +kernel) ((mpush_ret h3 (by show a.stack.dropLast.dropLast.length ≤ 58; simp only [List.length_dropLast]; omega) hc _).mono ?_))
  rintro r w4 ⟨rfl, h4, hk4⟩
  refine au ?_
  exact rn_end Tryz.func61 (.inr (.inl ⟨rfl, rfl⟩)) ⟨rfl, Dn.late hk1 (Dn.ofP (M := M) h4 h.mIn (hk13.tr hk4))⟩

theorem mdo_less (h : Vm Y Z R B w x fp (M.at a)) (h2s : 2 ≤ a.stack.length) (hs : a.stack.length ≤ 24) (hc : a.cells.length ≤ 48) :
    Ret Tryz.prog 61 [.pointer (some ⟨x, 0, none⟩), .agg (iC (7, A, K, N)).toArray] w fun r w' => r = .tuple #[] ∧ Dn Y Z R B w w' x fp { M with md := { a with next := a.next + 1, stack := a.stack.dropLast.dropLast ++ [ariI 7 (topS a.stack.dropLast) (topS a.stack)] } } := by
  refine ret_of 104 Tryz.func61 rfl rfl (by simp) ?_
  refine au ?_
  refine pl_op rfl rfl (opTo_boxN (iC (7, A, K, N)) rfl rfl rfl ?_)
  intro w1 x1 hx1 hs1 hk1 hb1
  have hml := (h.lt _ h.mIn).2.1
  have hmx : x1 ∉ [M.m] := by
    intro hm
    have hm : x1 = (M.at a).o.m := List.mem_singleton.1 hm
    omega
  have h1 := Vx.keep0 h hk1
  refine au ?_
  refine pl_val _ rfl rfl (val_load1 hT rfl rfl rfl (hb1.cell rfl)) ?_
  refine aub ?_
  refine pl_op rfl rfl (opTo_call (fst := []) (cap := []) rfl rfl rfl rfl (by decide +kernel) ((mpop_ret h1 (by show 1 ≤ a.stack.length; omega) (by show a.stack.length ≤ 59; omega)).mono ?_))
  rintro r w2 ⟨rfl, h2, hk2⟩
  refine au ?_
  refine pl_op rfl rfl (opTo_call (fst := []) (cap := []) rfl rfl rfl rfl (by decide +kernel) ((mpop_ret h2 (by show 1 ≤ a.stack.dropLast.length; rw [List.length_dropLast]; omega) (by show a.stack.dropLast.length ≤ 59; rw [List.length_dropLast]; omega)).mono ?_))
  rintro r w3 ⟨rfl, h3, hk3⟩
  have hk13 : Keep [M.m] w1 w3 := hk2.tr hk3
  have hb3 := hk13.blk hb1 hmx
  clear hb1
  refine au ?_
  refine pl_val _ rfl rfl (val_load1 hT rfl rfl rfl (hb3.cell rfl)) ?_
  refine au ?_
  refine pl_op rfl rfl (opTo_call (fst := []) (cap := []) rfl rfl rfl rfl (by decide +kernel) ((mreckon_ret 7 (topS a.stack.dropLast) (topS a.stack) (by decide) w3).mono ?_))
  rintro r w3' ⟨rfl, hww⟩
  rw [hww]
  refine pl_op rfl rfl (opTo_call (fst := []) (cap := []) rfl rfl rfl rfl (by decide +kernel) ((mpush_ret h3 (by show a.stack.dropLast.dropLast.length ≤ 58; simp only [List.length_dropLast]; omega) hc _).mono ?_))
  rintro r w4 ⟨rfl, h4, hk4⟩
  refine au ?_
  exact rn_end Tryz.func61 (.inr (.inl ⟨rfl, rfl⟩)) ⟨rfl, Dn.late hk1 (Dn.ofP (M := M) h4 h.mIn (hk13.tr hk4))⟩

theorem mdo_same (h : Vm Y Z R B w x fp (M.at a)) (h2s : 2 ≤ a.stack.length) (hs : a.stack.length ≤ 24) (hc : a.cells.length ≤ 48) :
    Ret Tryz.prog 61 [.pointer (some ⟨x, 0, none⟩), .agg (iC (8, A, K, N)).toArray] w fun r w' => r = .tuple #[] ∧ Dn Y Z R B w w' x fp { M with md := { a with next := a.next + 1, stack := a.stack.dropLast.dropLast ++ [ariI 8 (topS a.stack.dropLast) (topS a.stack)] } } := by
  refine ret_of 104 Tryz.func61 rfl rfl (by simp) ?_
  refine au ?_
  refine pl_op rfl rfl (opTo_boxN (iC (8, A, K, N)) rfl rfl rfl ?_)
  intro w1 x1 hx1 hs1 hk1 hb1
  have hml := (h.lt _ h.mIn).2.1
  have hmx : x1 ∉ [M.m] := by
    intro hm
    have hm : x1 = (M.at a).o.m := List.mem_singleton.1 hm
    omega
  have h1 := Vx.keep0 h hk1
  refine au ?_
  refine pl_val _ rfl rfl (val_load1 hT rfl rfl rfl (hb1.cell rfl)) ?_
  refine aub ?_
  refine pl_op rfl rfl (opTo_call (fst := []) (cap := []) rfl rfl rfl rfl (by decide +kernel) ((mpop_ret h1 (by show 1 ≤ a.stack.length; omega) (by show a.stack.length ≤ 59; omega)).mono ?_))
  rintro r w2 ⟨rfl, h2, hk2⟩
  refine au ?_
  refine pl_op rfl rfl (opTo_call (fst := []) (cap := []) rfl rfl rfl rfl (by decide +kernel) ((mpop_ret h2 (by show 1 ≤ a.stack.dropLast.length; rw [List.length_dropLast]; omega) (by show a.stack.dropLast.length ≤ 59; rw [List.length_dropLast]; omega)).mono ?_))
  rintro r w3 ⟨rfl, h3, hk3⟩
  have hk13 : Keep [M.m] w1 w3 := hk2.tr hk3
  have hb3 := hk13.blk hb1 hmx
  clear hb1
  refine au ?_
  refine pl_val _ rfl rfl (val_load1 hT rfl rfl rfl (hb3.cell rfl)) ?_
  refine au ?_
  refine pl_op rfl rfl (opTo_call (fst := []) (cap := []) rfl rfl rfl rfl (by decide +kernel) ((mreckon_ret 8 (topS a.stack.dropLast) (topS a.stack) (by decide) w3).mono ?_))
  rintro r w3' ⟨rfl, hww⟩
  rw [hww]
  refine pl_op rfl rfl (opTo_call (fst := []) (cap := []) rfl rfl rfl rfl (by decide +kernel) ((mpush_ret h3 (by show a.stack.dropLast.dropLast.length ≤ 58; simp only [List.length_dropLast]; omega) hc _).mono ?_))
  rintro r w4 ⟨rfl, h4, hk4⟩
  refine au ?_
  exact rn_end Tryz.func61 (.inr (.inl ⟨rfl, rfl⟩)) ⟨rfl, Dn.late hk1 (Dn.ofP (M := M) h4 h.mIn (hk13.tr hk4))⟩

theorem mdo_set (h : Vm Y Z R B w x fp (M.at a)) (h1s : 1 ≤ a.stack.length) (hs : a.stack.length ≤ 24) (hc : a.cells.length ≤ 48) (h0 : 0 ≤ A) (hA : A < (a.cells.length : Int)) :
    Ret Tryz.prog 61 [.pointer (some ⟨x, 0, none⟩), .agg (iC (9, A, K, N)).toArray] w fun r w' => r = .tuple #[] ∧ Dn Y Z R B w w' x fp { M with md := { a with next := a.next + 1, stack := a.stack.dropLast, cells := a.cells.set A.toNat (topS a.stack) } } := by
  refine ret_of 104 Tryz.func61 rfl rfl (by simp) ?_
  refine au ?_
  refine pl_op rfl rfl (opTo_boxN (iC (9, A, K, N)) rfl rfl rfl ?_)
  intro w1 x1 hx1 hs1 hk1 hb1
  have hml := (h.lt _ h.mIn).2.1
  have hmx : x1 ∉ [M.m] := by
    intro hm
    have hm : x1 = (M.at a).o.m := List.mem_singleton.1 hm
    omega
  have h1 := Vx.keep0 h hk1
  refine au ?_
  refine pl_val _ rfl rfl (val_load1 hT rfl rfl rfl (hb1.cell rfl)) ?_
  obtain ⟨k, rfl⟩ : ∃ k : Nat, A = (k : Nat) := ⟨A.toNat, by omega⟩
  refine aub ?_
  refine rn_draw (fun w' => Blk w' x1 (iC (9, ((k : Nat) : Int), K, N)) 79) [] hMix ?_
  have hS : Keep [] w1 w1.drew := (Keep.refl _ _).drew
  have h1 := Vx.keep0 h1 hS
  have hb2 := hS.blk hb1 (by simp)
  generalize w1.drew = w2 at *
  refine tk 0 ?_
  refine tk 1 ?_
  refine dr_val 2 (.int .i64 (k : Nat)) rfl (by decide +kernel) rfl rfl (fun w9 hS9 => val_load1 hT rfl rfl rfl (hS9.cell rfl)) hb2 ?_
  refine tk 3 ?_
  refine dr_op 4 rfl (by decide +kernel) rfl rfl (opTo_call (fst := []) (cap := []) rfl rfl rfl rfl (by decide +kernel) ((mpop_ret h1 h1s (by show a.stack.length ≤ 59; omega)).mono ?_))
  rintro r w3 ⟨rfl, h3, hk3⟩
  refine ⟨fun _ => hk3.blk hb2 hmx, ?_⟩
  refine dr_op 5 rfl (by decide +kernel) rfl rfl (opTo_call (fst := []) (cap := []) rfl rfl rfl rfl (by decide +kernel) ((msetCell_ret h3 hc (a := k) (by show k < a.cells.length; omega) (topS a.stack)).mono ?_))
  rintro r w4 ⟨rfl, h4, hk4⟩
  refine ⟨fun _ => hk4.blk (hk3.blk hb2 hmx) hmx, ?_⟩
  refine dr_done (by decide +kernel) ?_
  refine au ?_
  exact rn_end Tryz.func61 (.inr (.inl ⟨rfl, rfl⟩)) ⟨rfl, Dn.late (hk1.tr hS) (Dn.of (M := M) h4 h.mIn (hk3.tr hk4))⟩

theorem mdo_put (h : Vm Y Z R B w x fp (M.at a)) (h2s : 2 ≤ a.stack.length) (hs : a.stack.length ≤ 24) (hc : a.cells.length ≤ 48) (h0 : 0 ≤ A) (hA : A + K ≤ (a.cells.length : Int)) :
    Ret Tryz.prog 61 [.pointer (some ⟨x, 0, none⟩), .agg (iC (10, A, K, N)).toArray] w fun r w' => r = .tuple #[] ∧ Dn Y Z R B w w' x fp { M with md := if 0 ≤ topS a.stack.dropLast ∧ topS a.stack.dropLast < K then { a with next := a.next + 1, stack := a.stack.dropLast.dropLast, cells := a.cells.set (A + topS a.stack.dropLast).toNat (topS a.stack) } else { a with next := a.next + 1, stack := a.stack.dropLast.dropLast, state := 13 } } := by
  refine ret_of 104 Tryz.func61 rfl rfl (by simp) ?_
  refine au ?_
  refine pl_op rfl rfl (opTo_boxN (iC (10, A, K, N)) rfl rfl rfl ?_)
  intro w1 x1 hx1 hs1 hk1 hb1
  have hml := (h.lt _ h.mIn).2.1
  have hmx : x1 ∉ [M.m] := by
    intro hm
    have hm : x1 = (M.at a).o.m := List.mem_singleton.1 hm
    omega
  have h1 := Vx.keep0 h hk1
  refine au ?_
  refine pl_val _ rfl rfl (val_load1 hT rfl rfl rfl (hb1.cell rfl)) ?_
  refine aub ?_
  refine pl_val (.agg (iC (10, A, K, N)).toArray) rfl rfl (val_load (iC (10, A, K, N)) hT rfl rfl rfl (hb1.range (by rfl))) ?_
  refine pl_op rfl rfl (opTo_call (fst := []) (cap := []) rfl rfl rfl rfl (by decide +kernel) ((mputCell_ret h1 (10, A, K, N) h2s hs hc h0 hA).mono ?_))
  rintro r w2 ⟨rfl, hk2, h2⟩
  refine au ?_
  exact rn_end Tryz.func61 (.inr (.inl ⟨rfl, rfl⟩)) ⟨rfl, Dn.late hk1 (Dn.of (M := M) h2 h.mIn hk2)⟩

theorem mdo_print (h : Vm Y Z R B w x fp (M.at a)) (h1s : 1 ≤ a.stack.length) (hs : a.stack.length ≤ 24) (ho : a.out ≤ 400000) (hl : M.pr.1.length ≤ 400000) :
    Ret Tryz.prog 61 [.pointer (some ⟨x, 0, none⟩), .agg (iC (11, A, K, N)).toArray] w fun r w' => r = .tuple #[] ∧ Dn Y Z R B w w' x fp { M with md := { a with next := a.next + 1, stack := a.stack.dropLast, out := a.out + 1 }, pr := putP M.pr a.out (topS a.stack) } := by
  refine ret_of 104 Tryz.func61 rfl rfl (by simp) ?_
  refine au ?_
  refine pl_op rfl rfl (opTo_boxN (iC (11, A, K, N)) rfl rfl rfl ?_)
  intro w1 x1 hx1 hs1 hk1 hb1
  have hml := (h.lt _ h.mIn).2.1
  have hmx : x1 ∉ [M.m] := by
    intro hm
    have hm : x1 = (M.at a).o.m := List.mem_singleton.1 hm
    omega
  have h1 := Vx.keep0 h hk1
  refine au ?_
  refine pl_val _ rfl rfl (val_load1 hT rfl rfl rfl (hb1.cell rfl)) ?_
  refine aub ?_
  refine pl_op rfl rfl (opTo_call (fst := []) (cap := []) rfl rfl rfl rfl (by decide +kernel) ((mpop_ret h1 h1s (by show a.stack.length ≤ 59; omega)).mono ?_))
  rintro r w2 ⟨rfl, h2, hk2⟩
  refine pl_op rfl rfl (opTo_call (fst := []) (cap := []) rfl rfl rfl rfl (by decide +kernel) ((mprint_ret h2 ho hl (topS a.stack)).mono ?_))
  rintro r w3 ⟨rfl, fp', h3, hk3, hf3⟩
  refine au ?_
  refine rn_end Tryz.func61 (.inr (.inl ⟨rfl, rfl⟩)) ⟨rfl, Dn.late hk1 ⟨fp', Vm.b h3, (hk2.mono fun k hk => .inl ?_).tr hk3, fun k hk => (hf3 k hk).imp id fun h => Nat.le_trans hk2.size h⟩⟩
  rw [List.mem_singleton.1 hk]
  exact h.mIn

theorem mdo_read (h : Vm Y Z R B w x fp (M.at a)) (hr : a.read ≤ 1000000) (hc : a.cells.length ≤ 48) (h0 : 0 ≤ A) (hA : A < (a.cells.length : Int)) :
    Ret Tryz.prog 61 [.pointer (some ⟨x, 0, none⟩), .agg (iC (12, A, K, N)).toArray] w fun r w' => r = .tuple #[] ∧ Dn Y Z R B w w' x fp { M with md := if a.read < M.inp.length then { a with next := a.next + 1, cells := a.cells.set A.toNat (M.inp.getD a.read 0), read := a.read + 1 } else { a with next := a.next + 1, state := 14 } } := by
  refine ret_of 104 Tryz.func61 rfl rfl (by simp) ?_
  refine au ?_
  refine pl_op rfl rfl (opTo_boxN (iC (12, A, K, N)) rfl rfl rfl ?_)
  intro w1 x1 hx1 hs1 hk1 hb1
  have hml := (h.lt _ h.mIn).2.1
  have hmx : x1 ∉ [M.m] := by
    intro hm
    have hm : x1 = (M.at a).o.m := List.mem_singleton.1 hm
    omega
  have h1 := Vx.keep0 h hk1
  refine au ?_
  refine pl_val _ rfl rfl (val_load1 hT rfl rfl rfl (hb1.cell rfl)) ?_
  obtain ⟨k, rfl⟩ : ∃ k : Nat, A = (k : Nat) := ⟨A.toNat, by omega⟩
  refine aub ?_
  refine pl_op rfl rfl (opTo_call (fst := []) (cap := []) rfl rfl rfl rfl (by decide +kernel) ((mread_ret h1 hr hc (a := k) (by show k < a.cells.length; omega)).mono ?_))
  rintro r w2 ⟨rfl, hk2, h2⟩
  refine au ?_
  exact rn_end Tryz.func61 (.inr (.inl ⟨rfl, rfl⟩)) ⟨rfl, Dn.late hk1 (Dn.of (M := M) h2 h.mIn hk2)⟩

theorem mdo_else (h : Vm Y Z R B w x fp (M.at a)) (h1s : 1 ≤ a.stack.length) (hs : a.stack.length ≤ 24) (h0 : 0 ≤ A) :
    Ret Tryz.prog 61 [.pointer (some ⟨x, 0, none⟩), .agg (iC (13, A, K, N)).toArray] w fun r w' => r = .tuple #[] ∧ Dn Y Z R B w w' x fp { M with md := { a with next := if topS a.stack = 0 then A.toNat else a.next + 1, stack := a.stack.dropLast } } := by
  refine ret_of 104 Tryz.func61 rfl rfl (by simp) ?_
  refine au ?_
  refine pl_op rfl rfl (opTo_boxN (iC (13, A, K, N)) rfl rfl rfl ?_)
  intro w1 x1 hx1 hs1 hk1 hb1
  have hml := (h.lt _ h.mIn).2.1
  have hmx : x1 ∉ [M.m] := by
    intro hm
    have hm : x1 = (M.at a).o.m := List.mem_singleton.1 hm
    omega
  have h1 := Vx.keep0 h hk1
  refine au ?_
  refine pl_val _ rfl rfl (val_load1 hT rfl rfl rfl (hb1.cell rfl)) ?_
  obtain ⟨k, rfl⟩ : ∃ k : Nat, A = (k : Nat) := ⟨A.toNat, by omega⟩
  refine aub ?_
  refine pl_op rfl rfl (opTo_call (fst := []) (cap := []) rfl rfl rfl rfl (by decide +kernel) ((mpop_ret h1 h1s (by show a.stack.length ≤ 59; omega)).mono ?_))
  rintro r w2 ⟨rfl, h2, hk2⟩
  have hb2 := hk2.blk hb1 hmx
  clear hb1
  by_cases ht : topS a.stack = 0
  · rw [if_pos ht]
    refine ye ?_
    refine au ?_
    refine pl_val _ rfl rfl (val_load1 hT rfl rfl rfl (hb2.cell rfl)) ?_
    refine pl_op rfl rfl (opTo_call (fst := []) (cap := []) rfl rfl rfl rfl (by decide +kernel) ((mjump_ret h2 k).mono ?_))
    rintro r w3 ⟨rfl, h3, hk3⟩
    refine au ?_
    exact rn_end Tryz.func61 (.inr (.inl ⟨rfl, rfl⟩)) ⟨rfl, Dn.late hk1 (Dn.of (M := M) h3 h.mIn (hk2.tr hk3))⟩
  · rw [if_neg ht]
    refine nay ?_
    refine au ?_
    exact rn_end Tryz.func61 (.inr (.inl ⟨rfl, rfl⟩)) ⟨rfl, Dn.late hk1 (Dn.of (M := M) h2 h.mIn hk2)⟩

theorem mdo_jump (h : Vm Y Z R B w x fp (M.at a)) (h0 : 0 ≤ A) :
    Ret Tryz.prog 61 [.pointer (some ⟨x, 0, none⟩), .agg (iC (14, A, K, N)).toArray] w fun r w' => r = .tuple #[] ∧ Dn Y Z R B w w' x fp { M with md := { a with next := A.toNat } } := by
  refine ret_of 104 Tryz.func61 rfl rfl (by simp) ?_
  refine au ?_
  refine pl_op rfl rfl (opTo_boxN (iC (14, A, K, N)) rfl rfl rfl ?_)
  intro w1 x1 hx1 hs1 hk1 hb1
  have hml := (h.lt _ h.mIn).2.1
  have hmx : x1 ∉ [M.m] := by
    intro hm
    have hm : x1 = (M.at a).o.m := List.mem_singleton.1 hm
    omega
  have h1 := Vx.keep0 h hk1
  refine au ?_
  refine pl_val _ rfl rfl (val_load1 hT rfl rfl rfl (hb1.cell rfl)) ?_
  obtain ⟨k, rfl⟩ : ∃ k : Nat, A = (k : Nat) := ⟨A.toNat, by omega⟩
  refine aub ?_
  refine pl_op rfl rfl (opTo_call (fst := []) (cap := []) rfl rfl rfl rfl (by decide +kernel) ((mjump_ret h1 k).mono ?_))
  rintro r w2 ⟨rfl, h2, hk2⟩
  refine au ?_
  exact rn_end Tryz.func61 (.inr (.inl ⟨rfl, rfl⟩)) ⟨rfl, Dn.late hk1 (Dn.of (M := M) h2 h.mIn hk2)⟩

theorem mdo_halt (h : Vm Y Z R B w x fp (M.at a))  :
    Ret Tryz.prog 61 [.pointer (some ⟨x, 0, none⟩), .agg (iC (16, A, K, N)).toArray] w fun r w' => r = .tuple #[] ∧ Dn Y Z R B w w' x fp { M with md := { a with next := a.next + 1, state := 1 } } := by
  refine ret_of 104 Tryz.func61 rfl rfl (by simp) ?_
  refine au ?_
  refine pl_op rfl rfl (opTo_boxN (iC (16, A, K, N)) rfl rfl rfl ?_)
  intro w1 x1 hx1 hs1 hk1 hb1
  have hml := (h.lt _ h.mIn).2.1
  have hmx : x1 ∉ [M.m] := by
    intro hm
    have hm : x1 = (M.at a).o.m := List.mem_singleton.1 hm
    omega
  have h1 := Vx.keep0 h hk1
  refine au ?_
  refine pl_val _ rfl rfl (val_load1 hT rfl rfl rfl (hb1.cell rfl)) ?_
  refine aub ?_
  refine pl_val _ rfl rfl (val_load1 hT rfl rfl rfl (h1.ptr)) ?_
  refine pl_op rfl rfl (opTo_call (fst := []) (cap := []) rfl rfl rfl rfl (by decide +kernel) ((h1.put (E' := fun W => Ena Z W { a with next := a.next + 1, state := 1 }) 4 1 fun W hl e => by
    rw [show (4 : Int) = ((4 : Nat) : Int) from rfl, putW_at W _ (by decide)]
    exact ena_state e hl rfl).mono ?_))
  rintro r w2 ⟨rfl, h2, hk2⟩
  refine au ?_
  exact rn_end Tryz.func61 (.inr (.inl ⟨rfl, rfl⟩)) ⟨rfl, Dn.late hk1 (Dn.of (M := M) h2 h.mIn hk2)⟩

theorem mdo_commit {Y' : Nat → List Int → Prop} (h : Vm Y Z R B w x fp (M.at a)) (hY : ∀ d S S2 W, Y d S → Ena Z W (M.at a).md → W.length = 112 → allS S2 = W → Y' d S2) (hl : M.left = 0) (ht : M.torn = false) (hg : M.gen < 1000000) :
    Ret Tryz.prog 61 [.pointer (some ⟨x, 0, none⟩), .agg (iC (15, A, K, N)).toArray] w fun r w' => r = .tuple #[] ∧ Dn Y' Z R B w w' x fp { M with md := { a with next := a.next + 1 }, gen := M.gen + 1 } := by
  refine ret_of 104 Tryz.func61 rfl rfl (by simp) ?_
  refine au ?_
  refine pl_op rfl rfl (opTo_boxN (iC (15, A, K, N)) rfl rfl rfl ?_)
  intro w1 x1 hx1 hs1 hk1 hb1
  have hml := (h.lt _ h.mIn).2.1
  have hmx : x1 ∉ [M.m] := by
    intro hm
    have hm : x1 = (M.at a).o.m := List.mem_singleton.1 hm
    omega
  have h1 := Vx.keep0 h hk1
  refine au ?_
  refine pl_val _ rfl rfl (val_load1 hT rfl rfl rfl (hb1.cell rfl)) ?_
  refine aub ?_
  refine rn_draw (fun w' => w'.cell? ⟨x, 0, none⟩ = some (.pointer (some ⟨M.m, 0, none⟩))) [11] hMix ?_
  have hS : Keep [] w1 w1.drew := (Keep.refl _ _).drew
  have h1 := Vx.keep0 h1 hS
  generalize w1.drew = w2 at *
  refine tk 0 ?_
  refine tk 1 ?_
  refine tk 2 ?_
  refine tk 3 ?_
  refine dr_val 4 (.pointer (some ⟨M.m, 0, none⟩)) rfl (by decide +kernel) rfl rfl (fun w9 hS9 => val_load1 hT rfl rfl rfl hS9) h1.ptr ?_
  refine tk 5 ?_
  refine dr_op 6 rfl (by decide +kernel) rfl rfl (opTo_call (fst := []) (cap := []) rfl rfl rfl rfl (by decide +kernel) ((mdeeds_all h1 (by show M.left ≤ 0; omega)).mono ?_))
  rintro r w2' ⟨rfl, hww⟩
  rw [hww]
  refine ⟨fun _ => h1.ptr, ?_⟩
  refine dr_op 7 rfl (by decide +kernel) rfl rfl (opTo_call (fst := []) (cap := []) rfl rfl rfl rfl (by decide +kernel) ((h1.sync hg hY).mono ?_))
  rintro r w3 ⟨rfl, fp3, h3, hk3, hf3⟩
  refine ⟨fun _ => h3.ptr, ?_⟩
  refine tk 8 ?_
  refine tk 9 ?_
  refine tk 10 ?_
  obtain ⟨cv, iv, hbk, _, _, _⟩ := h3.bk
  refine dr_op 11 rfl (by decide +kernel) rfl rfl (opTo_storeN [.bool false] rfl rfl rfl rfl size_bo hbk (by simp [maC]) (one_v rfl) ?_)
  intro w4 hs4 hk4 hb4
  refine ⟨fun h => absurd (by simp) h, ?_⟩
  refine dr_done (by decide +kernel) ?_
  have h4 := h3.own (left := M.left) (torn := M.torn) hk4 fun {cv' iv'} hbk' => by
    rw [ht]
    have e := Blk.inj hbk hbk'
    simp only [maC, List.cons.injEq] at e
    rw [← e.2.1, ← e.2.2.1]
    exact hb4
  refine au ?_
  refine rn_end Tryz.func61 (.inr (.inl ⟨rfl, rfl⟩)) ⟨rfl, Dn.late (hk1.tr hS) ⟨fp3, Vx.mono h4 (fun _ _ e => e.b), hk3.trans hk4 fun k hk => .inl ?_, hf3⟩⟩
  rw [List.mem_singleton.1 hk]
  exact h.in

theorem mdo_tear (h : Vm Y Z R B w x fp (M.at a)) (hl0 : 0 < M.left) (hl1 : M.left < 9223372036854775808) (hg : M.gen < 1000000) :
    Ret Tryz.prog 61 [.pointer (some ⟨x, 0, none⟩), .agg (iC (15, A, K, N)).toArray] w fun r w' => r = .tuple #[] ∧ TnD Y (fun W => Ena Z W (M.at a).md) R B w w' fp M.o ∧ Keep fp w w' := by
  refine ret_of 104 Tryz.func61 rfl rfl (by simp) ?_
  refine au ?_
  refine pl_op rfl rfl (opTo_boxN (iC (15, A, K, N)) rfl rfl rfl ?_)
  intro w1 x1 hx1 hs1 hk1 hb1
  have hml := (h.lt _ h.mIn).2.1
  have hmx : x1 ∉ [M.m] := by
    intro hm
    have hm : x1 = (M.at a).o.m := List.mem_singleton.1 hm
    omega
  have h1 := Vx.keep0 h hk1
  refine au ?_
  refine pl_val _ rfl rfl (val_load1 hT rfl rfl rfl (hb1.cell rfl)) ?_
  refine aub ?_
  refine rn_draw (fun w' => w'.cell? ⟨x, 0, none⟩ = some (.pointer (some ⟨M.m, 0, none⟩))) [11] hMix ?_
  have hS : Keep [] w1 w1.drew := (Keep.refl _ _).drew
  have h1 := Vx.keep0 h1 hS
  generalize w1.drew = w2 at *
  refine tk 0 ?_
  refine tk 1 ?_
  refine tk 2 ?_
  refine tk 3 ?_
  refine dr_val 4 (.pointer (some ⟨M.m, 0, none⟩)) rfl (by decide +kernel) rfl rfl (fun w9 hS9 => val_load1 hT rfl rfl rfl hS9) h1.ptr ?_
  refine tk 5 ?_
  obtain ⟨d, s, S, W, D, wv, cv, iv, pv, rfl, hv, he, hY⟩ := h1
  have hbk := hv.blk
  refine dr_op 6 rfl (by decide +kernel) rfl rfl (opTo_call (fst := []) (cap := []) rfl rfl rfl rfl (by decide +kernel) ((mdeeds_some hbk hv.st.mem hl0 hl1).mono ?_))
  rintro r w3 ⟨⟨may, rfl, hdn, hde⟩, hk3⟩
  have hb3 := hk3.blk hbk (by simp)
  refine ⟨fun _ => hb3.cell rfl, ?_⟩
  refine dr_op 7 rfl (by decide +kernel) rfl rfl (opTo_call (fst := []) (cap := []) rfl rfl rfl rfl (by decide +kernel) ((sync_ret (hv.st.mem.keep hk3 (by simp)) (hk3.blk hv.st.sto (by simp)) (hv.st.dsk.keep hk3 (by simp)) (by rw [hv.gen]; exact hg) may).mono ?_))
  rintro r w4 ⟨rfl, _, _, hk4, wv4, hd4, hf4⟩
  rw [hde] at hd4
  rw [hdn]
  have hb4 := hk4.blk hb3 fun hm => by
    rcases List.mem_cons.1 hm with h3 | h3
    · exact Blk.ne hbk hv.st.mem.blk (by decide) h3
    · exact not_fp hv.st.dsk hbk (by decide) h3
  refine ⟨fun _ => hb4.cell rfl, ?_⟩
  refine tk 8 ?_
  refine tk 9 ?_
  refine tk 10 ?_
  refine dr_op 11 rfl (by decide +kernel) rfl rfl (opTo_storeN [.bool true] rfl rfl rfl rfl size_bo hb4 (by simp [maC]) (one_v rfl) ?_)
  intro w5 hs5 hk5 hb5
  refine ⟨fun h => absurd (by simp) h, ?_⟩
  refine dr_done (by decide +kernel) ?_
  refine au ?_
  have hfm : ∀ k ∈ M.m :: fpD d wv, k ∈ fpV x d s M.m wv M.q pv iv := fun k hk => by
    rcases List.mem_cons.1 hk with h3 | h3
    · exact mem_fpV.2 (.inr (.inl h3))
    · exact mem_fpV.2 (.inr (.inr (.inr (.inl h3))))
  have hp4 : Pv R B w4 M.q pv M.pr := (hv.pr.keep hk3 (fun k hm => by cases hm)).keep hk4 fun k hm hq => by
    rcases List.mem_cons.1 hm with h3 | h3
    · rcases List.mem_cons.1 hq with h5 | h5
      · exact Blk.ne hv.st.mem.blk hv.pr.blk (by decide) (h3.symm.trans h5)
      · exact hv.pr.row.ne hv.st.mem.blk (by decide) k h5 (by rw [h3]; simp)
    · rcases List.mem_cons.1 hq with h5 | h5
      · rw [h5] at h3
        exact not_fp hv.st.dsk hv.pr.blk (by decide) h3
      · obtain ⟨L, hL⟩ := hv.pr.row.blk k h5
        exact not_fp hv.st.dsk hL (by decide) h3
  have hp5 : Pv R B w5 M.q pv M.pr := hp4.keep hk5 fun k hm hq => by
    rw [List.mem_singleton.1 hm] at hq
    rcases List.mem_cons.1 hq with h5 | h5
    · exact Blk.ne hv.blk hv.pr.blk (by decide) h5
    · exact hv.pr.row.ne hv.blk (by decide) _ h5 (by simp)
  have hd5 := hd4.keep hk5 fun k hm hx => by
    rw [List.mem_singleton.1 hx] at hm
    exact not_fp hd4 hb4 (by decide) hm
  have hk25 : Keep (fpV x d s M.m wv M.q pv iv) w2 w5 := ((hk3.of0.trans hk4 fun k hk => .inl (hfm k hk)).trans hk5 fun k hk => .inl (by rw [List.mem_singleton.1 hk]; exact mem_fpV.2 (.inl rfl)))
  refine rn_end Tryz.func61 (.inr (.inl ⟨rfl, rfl⟩)) ⟨rfl, ⟨d, S, W, D, wv4, pv, he, hY, hv.st.mem.wl, hv.st.good, hv.st.tied, hv.gen, hd5, hp5, fun k hk => ?_, fun k hk => mem_fpV.2 (.inr (.inr (.inr (.inr (.inl hk)))))⟩, (hk1.tr hS).of0.tr hk25⟩
  rcases hf4 k hk with h3 | h3
  · exact .inl (hfm k (List.mem_cons_of_mem _ h3))
  · exact .inr (Nat.le_trans (hk1.tr (hS.tr hk3)).size h3)

end
end E
end Go.Proofs.YtmplkogkphmmjagGreat

/- The landed machine: Step, Commits, Tear, Torn, New. -/
namespace Go.Proofs.YtmplkogkphmmjagGreat
set_option maxRecDepth 20000
set_option maxHeartbeats 4000000
namespace E
open Go.Proofs

section
variable {Y : Nat → List Int → Prop} {Z : List Int} {R : Nat → Prop} {B : Nat} {w w' : World} {x : Nat} {fp : List Nat} {M M' : Mx}
theorem Dn.seq {w1 : World} (hm : M.m ∈ fp) (hk : Keep [M.m] w w1) (h : Dn Y Z R B w1 w' x fp M') : Dn Y Z R B w w' x fp M' := by
  obtain ⟨fp', h1, h2, h3⟩ := h
  exact ⟨fp', h1, (hk.mono fun k hk => .inl (by rw [List.mem_singleton.1 hk]; exact hm)).tr h2, fun k hk' => (h3 k hk').imp id fun h => Nat.le_trans hk.size h⟩

theorem mstep_of (h : Vm Y Z R B w x fp M) (hs : M.md.state = 0) {i : Is} (hi : M.L[M.md.next]? = some i) (hL : M.L.length ≤ 1000000) {K : World → Prop}
    (hdo : ∀ w1, Vm Y Z R B w1 x fp (M.at M.md) → Keep [M.m] w w1 → Ret Tryz.prog 61 [.pointer (some ⟨x, 0, none⟩), .agg (iC i).toArray] w1 fun r w' => r = .tuple #[] ∧ K w') :
    Ret Tryz.prog 43 [.pointer (some ⟨x, 0, none⟩)] w fun r w' => r = .bool true ∧ K w' := by
  have hn : M.md.next < M.L.length := (List.getElem?_eq_some_iff.1 hi).1
  have hml := (h.lt _ h.mIn).2.1
  refine ret_of 23 Tryz.func43 rfl rfl (by simp) ?_
  refine au ?_
  refine pl_op rfl rfl (opTo_call (fst := []) (cap := []) rfl rfl rfl rfl (by decide +kernel) ((goes_ret h).mono ?_))
  rintro r w0 ⟨rfl, hww⟩
  rw [hww, hs]
  refine au ?_
  refine pl_op rfl rfl (opTo_call (fst := []) (cap := []) rfl rfl rfl rfl (by decide +kernel) ((mcnext_ret h hi).mono ?_))
  rintro r w1 ⟨rfl, hk1⟩
  refine pl_op rfl rfl (opTo_allocN _ rfl zero_mis ?_)
  intro w2 x2 hx2 hs2 hk2 hb2
  refine pl_op rfl rfl (opTo_storeN (iC i) rfl rfl rfl rfl size_mis hb2 (by simp [iC]) (iC_one _) ?_)
  intro w3 hs3 hk3 hb3
  rw [splice_whole (by rfl)] at hb3
  have hk03 : Keep [] w w3 := (hk1.tr hk2).trB hk3 (by have := hk1.size; omega)
  have hmx : x2 ∉ [M.m] := by
    intro hm
    have hm : x2 = M.o.m := List.mem_singleton.1 hm
    have := hk1.size
    omega
  have h3 := Vx.keep0 h hk03
  refine au ?_
  refine rn_draw (fun w' => w'.cell? ⟨x, 0, none⟩ = some (.pointer (some ⟨M.m, 0, none⟩))) [] hMix ?_
  have hS : Keep [] w3 w3.drew := (Keep.refl _ _).drew
  have h4 := Vx.keep0 h3 hS
  have hb4 := hS.blk hb3 (by simp)
  generalize w3.drew = w4 at *
  refine tk 0 ?_
  refine tk 1 ?_
  refine tk 2 ?_
  refine dr_val 3 (.pointer (some ⟨M.m, 0, none⟩)) rfl (by decide +kernel) rfl rfl (fun w9 hS9 => val_load1 hT rfl rfl rfl hS9) h4.ptr ?_
  refine tk 4 ?_
  refine tk 5 ?_
  refine tk 6 ?_
  refine dr_val 7 (.pointer (some ⟨M.m, 0, none⟩)) rfl (by decide +kernel) rfl rfl (fun w9 hS9 => val_load1 hT rfl rfl rfl hS9) h4.ptr ?_
  refine dr_op 8 rfl (by decide +kernel) rfl rfl (opTo_call (fst := []) (cap := []) rfl rfl rfl rfl (by decide +kernel) ((h4.load 0 (M.md.next : Nat) fun W hl e => loadW_at e.next (by decide)).mono ?_))
  rintro r w4' ⟨rfl, hww⟩
  rw [hww]
  refine ⟨fun _ => h4.ptr, ?_⟩
  refine dr_num 9 (((M.md.next + 1 : Nat) : Int)) rfl (by decide +kernel) rfl rfl rfl rfl rfl (by simp only [ariP]; omega) ?_
  refine dr_op 10 rfl (by decide +kernel) rfl rfl (opTo_call (fst := []) (cap := []) rfl rfl rfl rfl (by decide +kernel) ((h4.put (E' := fun W => Ena Z W { M.md with next := M.md.next + 1 }) 0 ((M.md.next + 1 : Nat) : Int) fun W hl e => by
    rw [show (0 : Int) = ((0 : Nat) : Int) from rfl, putW_at W _ (by decide)]
    exact ena_next e hl _).mono ?_))
  rintro r w5 ⟨rfl, h5, hk5⟩
  refine ⟨fun _ => h5.ptr, ?_⟩
  refine dr_done (by decide +kernel) ?_
  have hb5 := hk5.blk hb4 hmx
  refine au ?_
  refine pl_val (.agg (iC i).toArray) rfl rfl (val_load (iC i) hT rfl rfl rfl (hb5.range (by rfl))) ?_
  refine pl_op rfl rfl (opTo_call (fst := []) (cap := []) rfl rfl rfl rfl (by decide +kernel) ((hdo w5 h5 ((hk03.tr hS).of0.tr hk5)).mono ?_))
  rintro r w6 ⟨rfl, hK⟩
  refine au ?_
  exact rn_ret Tryz.func43 (.inl ⟨_, rfl, rfl⟩) ⟨rfl, hK⟩

theorem mstep_off (h : Vm Y Z R B w x fp M) (hs : M.md.state ≠ 0) : Ret Tryz.prog 43 [.pointer (some ⟨x, 0, none⟩)] w fun r w' => r = .bool false ∧ Keep [] w w' := by
  refine ret_of 23 Tryz.func43 rfl rfl (by simp) ?_
  refine au ?_
  refine pl_op rfl rfl (opTo_call (fst := []) (cap := []) rfl rfl rfl rfl (by decide +kernel) ((goes_ret h).mono ?_))
  rintro r w0 ⟨rfl, hww⟩
  rw [hww, show decide (M.md.state = 0) = false by simp [hs]]
  refine au ?_
  exact rn_ret Tryz.func43 (.inl ⟨_, rfl, rfl⟩) ⟨rfl, Keep.refl _ _⟩

theorem mexI_get (inp : List Int) (A K N : Int) (a : Md) (p : Pr) : exI inp (3, A, K, N) a p = (if 0 ≤ topS a.stack ∧ topS a.stack < K then { a with next := a.next + 1, stack := a.stack.dropLast ++ [cellAt a.cells (A + topS a.stack)] } else { a with next := a.next + 1, stack := a.stack.dropLast, state := 13 }, p) := by
  have e : exI inp (3, A, K, N) a p = (if 0 ≤ topS a.stack ∧ topS a.stack < K then ({ a with next := a.next + 1, stack := a.stack.dropLast ++ [cellAt a.cells (A + topS a.stack)] }, p) else ({ a with next := a.next + 1, stack := a.stack.dropLast, state := 13 }, p)) := rfl
  rw [e]
  split <;> rfl
theorem mexI_put (inp : List Int) (A K N : Int) (a : Md) (p : Pr) : exI inp (10, A, K, N) a p = (if 0 ≤ topS a.stack.dropLast ∧ topS a.stack.dropLast < K then { a with next := a.next + 1, stack := a.stack.dropLast.dropLast, cells := a.cells.set (A + topS a.stack.dropLast).toNat (topS a.stack) } else { a with next := a.next + 1, stack := a.stack.dropLast.dropLast, state := 13 }, p) := by
  have e : exI inp (10, A, K, N) a p = (if 0 ≤ topS a.stack.dropLast ∧ topS a.stack.dropLast < K then ({ a with next := a.next + 1, stack := a.stack.dropLast.dropLast, cells := a.cells.set (A + topS a.stack.dropLast).toNat (topS a.stack) }, p) else ({ a with next := a.next + 1, stack := a.stack.dropLast.dropLast, state := 13 }, p)) := rfl
  rw [e]
  split <;> rfl
theorem mexI_read (inp : List Int) (A K N : Int) (a : Md) (p : Pr) : exI inp (12, A, K, N) a p = (if a.read < inp.length then { a with next := a.next + 1, cells := a.cells.set A.toNat (inp.getD a.read 0), read := a.read + 1 } else { a with next := a.next + 1, state := 14 }, p) := by
  have e : exI inp (12, A, K, N) a p = (if a.read < inp.length then ({ a with next := a.next + 1, cells := a.cells.set A.toNat (inp.getD a.read 0), read := a.read + 1 }, p) else ({ a with next := a.next + 1, state := 14 }, p)) := rfl
  rw [e]
  split <;> rfl

theorem Vx.y {O : Mo} {E : List Int → Prop} {Y' : Nat → List Int → Prop} (h : Vx Y R B w x fp O E) (hy : ∀ d S, Y d S → Y' d S) : Vx Y' R B w x fp O E := by
  obtain ⟨d, s, S, W, D, wv, cv, iv, pv, rfl, h, e, y⟩ := h
  exact ⟨d, s, S, W, D, wv, cv, iv, pv, rfl, h, e, hy d S y⟩
theorem mstep_ret {c i : Nat} {Q : List Is} {Y' : Nat → List Int → Prop} (h : Vm Y Z R B w x fp M) (ho : Wo c Q M i) (hi : i ≤ 400000) (hs : M.md.state = 0) (hl : comB M.L M.md = true → M.left = 0 ∧ M.torn = false)
    (hYc : comB M.L M.md = true → ∀ d S S2 W, Y d S → Ena Z W (M.at M.md).md → W.length = 112 → allS S2 = W → Y' d S2) (hYn : comB M.L M.md = false → ∀ d S, Y d S → Y' d S) :
    Ret Tryz.prog 43 [.pointer (some ⟨x, 0, none⟩)] w fun r w' => r = .bool true ∧ ∃ fp', Vp Y' Z R B w' x fp' (M.go (if comB M.L M.md then M.gen + 1 else M.gen)) ∧ Keep fp w w' ∧ ∀ k ∈ fp', k ∈ fp ∨ w.heap.size ≤ k := by
  have hn := ho.fit.next hs
  have hsim := ho.fit.sim hs
  have hst := hsim.le (by decide)
  have hcc := ho.fit.cells
  have hc48 := ho.c48
  have hc : M.md.cells.length ≤ 48 := by omega
  have hlen := ho.prg.len
  have hou := ho.fit.out
  have hol := ho.out
  have hrd := ho.read
  have hg0 := ho.gen0
  have hgn := ho.gen
  have hL : M.L.length ≤ 1000000 := by rw [ho.code]; simp; omega
  obtain ⟨y, hy, hfx⟩ := at_halt ho.prg.sim hn hsim
  rw [← ho.code] at hy
  have hgd : M.L.getD M.md.next (0, 0, 0, 0) = y := by rw [List.getD_eq_getElem?_getD, hy]; rfl
  have hgo : ∀ g, M.go g = { M with md := (exI M.inp y M.md M.pr).1, pr := (exI M.inp y M.md M.pr).2, gen := g } := fun g => by
    unfold Mx.go stB
    rw [if_pos hs, hgd]
  have hcb : comB M.L M.md = decide (y.1 = 15) := by
    unfold comB
    rw [hgd, hs]
    simp
  have fin : ∀ {w1 w' : World} {r : Value}, Keep [M.m] w w1 → Dn Y' Z R B w1 w' x fp (M.go (if comB M.L M.md then M.gen + 1 else M.gen)) → ∃ fp', Vp Y' Z R B w' x fp' (M.go (if comB M.L M.md then M.gen + 1 else M.gen)) ∧ Keep fp w w' ∧ ∀ k ∈ fp', k ∈ fp ∨ w.heap.size ≤ k := fun {w1 w' r} hk hd => Dn.seq h.mIn hk hd
  have same : ∀ {w1 w' : World} {r : Value}, comB M.L M.md = false → Keep [M.m] w w1 → r = .tuple #[] ∧ Dn Y Z R B w1 w' x fp (M.go M.gen) → r = .tuple #[] ∧ ∃ fp', Vp Y' Z R B w' x fp' (M.go (if comB M.L M.md then M.gen + 1 else M.gen)) ∧ Keep fp w w' ∧ ∀ k ∈ fp', k ∈ fp ∨ w.heap.size ≤ k := fun {w1 w' r} hc0 hk hd => ⟨hd.1, fin (r := r) hk (by
    rw [hc0, if_neg (by decide)]
    obtain ⟨fp', h2, h3⟩ := hd.2
    exact ⟨fp', Vx.y h2 (hYn hc0), h3⟩)⟩
  refine mstep_of h hs hy hL fun w1 h1 hk1 => ?_
  rcases hfx with ⟨hlt, hxQ, hok, _⟩ | ⟨hlt, rfl, hk0⟩
  · have hops := ho.prg.ops y (List.mem_of_getElem? hxQ)
    have hjm := ho.prg.jmp y (List.mem_of_getElem? hxQ)
    obtain ⟨op, A, K, N⟩ := y
    obtain ⟨f1, f2, f3, f4, f5, f6⟩ := hok
    simp only at f1 f2 f3 f4 f5 f6 hops
    obtain ⟨n1, n2, n3, n4, n5, n6⟩ := popI_num op
    have hA : op = 13 ∨ op = 14 → 0 ≤ A := fun hj => by
      obtain ⟨kk, h1, _⟩ := hjm hj
      simp only at h1
      omega
    clear hjm
    have hcase : op = 1 ∨ op = 2 ∨ op = 3 ∨ op = 4 ∨ op = 5 ∨ op = 6 ∨ op = 7 ∨ op = 8 ∨ op = 9 ∨ op = 10 ∨ op = 11 ∨ op = 12 ∨ op = 13 ∨ op = 14 ∨ op = 15 := by omega
    rcases hcase with rfl | rfl | rfl | rfl | rfl | rfl | rfl | rfl | rfl | rfl | rfl | rfl | rfl | rfl | rfl
    · refine (mdo_num h1 hst hc).mono fun r w' hd => same (hcb.trans (by rfl)) hk1 ?_
      rw [hgo]; exact hd
    · obtain ⟨g1, g2⟩ := f5 (.inl rfl)
      refine (mdo_var h1 hst hc g1 (by omega)).mono fun r w' hd => same (hcb.trans (by rfl)) hk1 ?_
      rw [hgo]; exact hd
    · obtain ⟨g1, g2, g3⟩ := f6 (.inl rfl)
      have := n2 rfl
      refine (mdo_get h1 (by omega) hst hc g1 (by omega)).mono fun r w' hd => same (hcb.trans (by rfl)) hk1 ?_
      rw [hgo, mexI_get]; exact hd
    · have := n3 (by omega)
      refine (mdo_add h1 (by omega) hst hc).mono fun r w' hd => same (hcb.trans (by rfl)) hk1 ?_
      rw [hgo]; exact hd
    · have := n3 (by omega)
      refine (mdo_sub h1 (by omega) hst hc).mono fun r w' hd => same (hcb.trans (by rfl)) hk1 ?_
      rw [hgo]; exact hd
    · have := n3 (by omega)
      refine (mdo_mul h1 (by omega) hst hc).mono fun r w' hd => same (hcb.trans (by rfl)) hk1 ?_
      rw [hgo]; exact hd
    · have := n3 (by omega)
      refine (mdo_less h1 (by omega) hst hc).mono fun r w' hd => same (hcb.trans (by rfl)) hk1 ?_
      rw [hgo]; exact hd
    · have := n3 (by omega)
      refine (mdo_same h1 (by omega) hst hc).mono fun r w' hd => same (hcb.trans (by rfl)) hk1 ?_
      rw [hgo]; exact hd
    · obtain ⟨g1, g2⟩ := f5 (.inr (.inl rfl))
      have := n4 (by omega)
      refine (mdo_set h1 (by omega) hst hc g1 (by omega)).mono fun r w' hd => same (hcb.trans (by rfl)) hk1 ?_
      rw [hgo]; exact hd
    · obtain ⟨g1, g2, g3⟩ := f6 (.inr rfl)
      have := n5 rfl
      refine (mdo_put h1 (by omega) hst hc g1 (by omega)).mono fun r w' hd => same (hcb.trans (by rfl)) hk1 ?_
      rw [hgo, mexI_put]; exact hd
    · have := n4 (by omega)
      refine (mdo_print h1 (by omega) hst (by omega) (by omega)).mono fun r w' hd => same (hcb.trans (by rfl)) hk1 ?_
      rw [hgo]; exact hd
    · obtain ⟨g1, g2⟩ := f5 (.inr (.inr rfl))
      refine (mdo_read h1 (by omega) hc g1 (by omega)).mono fun r w' hd => same (hcb.trans (by rfl)) hk1 ?_
      rw [hgo, mexI_read]; exact hd
    · have := n4 (by omega)
      refine (mdo_else h1 (by omega) hst (hA (.inl rfl))).mono fun r w' hd => same (hcb.trans (by rfl)) hk1 ?_
      rw [hgo]; exact hd
    · refine (mdo_jump h1 (hA (.inr rfl))).mono fun r w' hd => same (hcb.trans (by rfl)) hk1 ?_
      rw [hgo]; exact hd
    · have hcm : comB M.L M.md = true := hcb.trans (by rfl)
      obtain ⟨l0, l1⟩ := hl hcm
      refine (mdo_commit h1 (hYc hcm) l0 l1 (by omega)).mono fun r w' hd => ⟨hd.1, fin (r := r) hk1 ?_⟩
      rw [hcm, if_pos rfl, hgo]; exact hd.2
  · refine (mdo_halt (A := 0) (K := 0) (N := 0) h1).mono fun r w' hd => same (hcb.trans (by rfl)) hk1 ?_
    rw [hgo]; exact hd

theorem mtears_ret {c i : Nat} {Q : List Is} (h : Vm Y Z R B w x fp M) (ho : Wo c Q M i) (hi : i ≤ 400000) (hcm : comB M.L M.md = true) (hl0 : 0 < M.left) (hl1 : M.left < 9223372036854775808) :
    Ret Tryz.prog 43 [.pointer (some ⟨x, 0, none⟩)] w fun r w' => r = .bool true ∧ TnD Y (fun W => Ena Z W (M.at M.md).md) R B w w' fp M.o ∧ Keep fp w w' := by
  unfold comB at hcm
  simp only [Bool.and_eq_true, decide_eq_true_eq] at hcm
  obtain ⟨hs, h15⟩ := hcm
  have hn := ho.fit.next hs
  have hlen := ho.prg.len
  have hgn := ho.gen
  have hL : M.L.length ≤ 1000000 := by rw [ho.code]; simp; omega
  have hnl : M.md.next < M.L.length := by rw [ho.code]; simp; omega
  obtain ⟨y, hye⟩ : ∃ y, y = M.L[M.md.next] := ⟨_, rfl⟩
  have hy : M.L[M.md.next]? = some y := by rw [List.getElem?_eq_getElem hnl, hye]
  have hgd : M.L.getD M.md.next (0, 0, 0, 0) = y := by rw [List.getD_eq_getElem?_getD, hy]; rfl
  rw [hgd] at h15
  obtain ⟨op, A, K, N⟩ := y
  simp only at h15
  subst h15
  refine mstep_of h hs hy hL fun w1 h1 hk1 => ?_
  refine (mdo_tear h1 hl0 hl1 (by omega)).mono ?_
  rintro r w' ⟨rfl, ⟨d, S, W, D, wv, pv, t1, t2, t3, t4, t5, t6, t7, t8, t9, t10⟩, hk2⟩
  exact ⟨rfl, ⟨d, S, W, D, wv, pv, t1, t2, t3, t4, t5, t6, t7, t8, fun k hk => (t9 k hk).imp id fun h => Nat.le_trans hk1.size h, t10⟩, (hk1.mono fun k hk => .inl (by rw [List.mem_singleton.1 hk]; exact h.mIn)).tr hk2⟩
theorem size_it : sizeOk Tryz.prog 3 1 = true := by kernel_rfl
theorem mtear_ret (h : Vm Y Z R B w x fp M) (n : Int) : Ret Tryz.prog 44 [.pointer (some ⟨x, 0, none⟩), .int .i64 n] w fun r w' => r = .tuple #[] ∧ Vm Y Z R B w' x fp { M with left := n } ∧ Keep fp w w' := by
  obtain ⟨cv, iv, hbk, _, _, _⟩ := h.bk
  refine ret_of 8 Tryz.func44 rfl rfl (by simp) ?_
  refine au ?_
  refine pl_op rfl rfl (opTo_storeN [.int .i64 n] rfl rfl rfl rfl size_it hbk (by simp [maC]) (one_v rfl) ?_)
  intro w1 hs1 hk1 hb1
  have h2 := Vx.own (left := n) (torn := M.torn) h hk1 fun {cv' iv'} hbk' => by
    have e := Blk.inj hbk hbk'
    simp only [maC, List.cons.injEq] at e
    rw [← e.2.1, ← e.2.2.1]
    exact hb1
  refine au ?_
  exact rn_end Tryz.func44 (.inr (.inl ⟨rfl, rfl⟩)) ⟨rfl, h2, hk1.mono fun k hk => .inl (by rw [List.mem_singleton.1 hk]; exact h.in)⟩
theorem mcommits_ret {c i : Nat} {Q : List Is} (h : Vm Y Z R B w x fp M) (ho : Wo c Q M i) : Ret Tryz.prog 10 [.pointer (some ⟨x, 0, none⟩)] w fun r w' => r = .bool (comB M.L M.md) ∧ Keep [] w w' := by
  refine ret_of 11 Tryz.func10 rfl rfl (by simp) ?_
  unfold comB
  refine au ?_
  refine pl_op rfl rfl (opTo_call (fst := []) (cap := []) rfl rfl rfl rfl (by decide +kernel) ((goes_ret h).mono ?_))
  rintro r w0 ⟨rfl, hww⟩
  rw [hww]
  by_cases hs : M.md.state = 0
  · have hn := ho.fit.next hs
    have hnl : M.md.next < M.L.length := by rw [ho.code]; simp; omega
    obtain ⟨y, hye⟩ : ∃ y, y = M.L[M.md.next] := ⟨_, rfl⟩
    have hy : M.L[M.md.next]? = some y := by rw [List.getElem?_eq_getElem hnl, hye]
    have hgd : M.L.getD M.md.next (0, 0, 0, 0) = y := by rw [List.getD_eq_getElem?_getD, hy]; rfl
    rw [hgd, show decide (M.md.state = 0) = true by simp [hs]]
    refine au ?_
    refine pl_op rfl rfl (opTo_call (fst := []) (cap := []) rfl rfl rfl rfl (by decide +kernel) ((mcnext_ret h hy).mono ?_))
    rintro r w1 ⟨rfl, hk1⟩
    refine pl_val (.int .i64 y.1) rfl rfl (val_field1 0 (iC y) rfl rfl (by decide +kernel) rfl w1) ?_
    by_cases h15 : y.1 = 15
    · refine ye ?_
      refine au ?_
      exact rn_ret Tryz.func10 (.inl ⟨_, rfl, rfl⟩) ⟨by simp [h15], hk1⟩
    · refine nay ?_
      refine au ?_
      exact rn_ret Tryz.func10 (.inl ⟨_, rfl, rfl⟩) ⟨by simp [h15], hk1⟩
  · rw [show decide (M.md.state = 0) = false by simp [hs]]
    refine au ?_
    exact rn_ret Tryz.func10 (.inl ⟨_, rfl, rfl⟩) ⟨by simp, Keep.refl _ _⟩

theorem built_ma (m q : Nat) (ca ia : Option Addr) (cn cc i1 ic : Nat) : Tryz.prog.built tMa [(0, .pointer (some ⟨m, 0, none⟩)), (1, .slice ca cn cc), (2, .slice ia i1 ic), (3, .pointer (some ⟨q, 0, none⟩))] = some (maC m (.slice ca cn cc) (.slice ia i1 ic) q 0 false).toArray := by kernel_rfl
theorem mnew_m {d s m q : Nat} {S W : List Int} {D : List Bool} {wv cv iv : Value} {fq : List Nat} {p : Pr} {md : Md} {L : List Is} {inp : List Int} (hst : St B w d s m S W D wv) (hs : B ≤ s) (hnr : ∀ k ∈ fpM d s m wv, ¬ R k) (he : Ena Z W md) (hY : Y d S) (hp : PVm R B w q fq p) (hc : InsV R w cv L) (hi : LsR R w iv inp) (hro : ∀ k, R k → k < w.heap.size) (hil : inp.length ≤ 1000000) :
    Ret Tryz.prog 40 [.pointer (some ⟨m, 0, none⟩), cv, iv, .pointer (some ⟨q, 0, none⟩)] w fun r w' => ∃ x fp, r = .pointer (some ⟨x, 0, none⟩) ∧ Vm Y Z R B w' x fp ⟨L, inp, m, q, md, p, 0, false, genS S⟩ ∧ Keep [] w w' ∧ ∀ k ∈ fp, k ∈ fpM d s m wv ∨ k ∈ fq ∨ w.heap.size ≤ k := by
  obtain ⟨ia, icap, rfl, hi2⟩ := hi
  obtain ⟨ca, ccap, hcv⟩ := hc.form
  subst hcv
  obtain ⟨pv, rfl, hp⟩ := hp
  have hlies : LsV w (.slice ia inp.length icap) inp := ⟨ia, icap, rfl, fun h0 => by
    obtain ⟨b, q, e, hR, hr⟩ := hi2 h0
    exact ⟨b, q, e, hro b hR, hr⟩⟩
  have hBw : B ≤ w.heap.size := Nat.le_trans hst.hm (Nat.le_of_lt hst.mem.blk.lt)
  refine ret_of 20 Tryz.func40 rfl rfl (by simp) ?_
  refine au ?_
  refine pl_val (.bool false) rfl rfl (val_eqNil (by decide +kernel) rfl rfl w) ?_
  refine au ?_
  refine pl_op rfl rfl (opTo_call (fst := []) (cap := []) rfl rfl rfl rfl (by decide +kernel) ((cloneL_ret hlies hil).mono ?_))
  rintro r w1 ⟨hr, hk1⟩
  obtain ⟨ra, rcap, rfl⟩ := hr.form
  refine au ?_
  refine pl_val _ rfl rfl (val_build _ rfl rfl (built_ma m q ca ra L.length ccap inp.length rcap) w1) ?_
  refine pl_op rfl rfl (opTo_boxN (maC m (.slice ca L.length ccap) (.slice ra inp.length rcap) q 0 false) rfl rfl rfl ?_)
  intro w2 x hx hs2 hk2 hb2
  have hk := hk1.tr hk2
  refine au ?_
  have hrl : ∀ k ∈ obs (.slice ra inp.length rcap), w.heap.size ≤ k := fun k hk => (hr.lt k hk).1
  refine rn_ret Tryz.func40 (.inl ⟨_, rfl, rfl⟩) ⟨x, _, rfl, ⟨d, s, S, W, D, wv, .slice ca L.length ccap, .slice ra inp.length rcap, pv, rfl, ⟨hst.keep0 hk, hs, rfl, hp.keep0 hk, hb2, hc.keep hk fun c hR => ⟨hro c hR, by simp⟩, (hr.low hBw).keep hk2 (fun _ _ => by simp), by have := hk1.size; omega, ?_, ?_⟩, he, hY⟩, hk, ?_⟩
  · intro k hk hm
    have := (hp.lt k (by simp [hk])).2.1
    have := hrl k hm
    omega
  · intro k hk hR
    have hlt := hro k hR
    have := hk1.size
    rcases mem_fpV.1 hk with h1 | h1 | h1 | h1 | h1 | h1
    · omega
    · exact hnr k (by simp only [fpM, List.mem_cons]; exact .inl h1) hR
    · exact hnr k (by simp only [fpM, List.mem_cons]; exact .inr (.inl h1)) hR
    · exact hnr k (by simp only [fpM, List.mem_cons]; exact .inr (.inr h1)) hR
    · exact hp.nr k h1 hR
    · have := hrl k h1
      omega
  · intro k hk
    have := hk1.size
    rcases mem_fpV.1 hk with h1 | h1 | h1 | h1 | h1 | h1
    · exact .inr (.inr (by omega))
    · exact .inl (by simp only [fpM, List.mem_cons]; exact .inl h1)
    · exact .inl (by simp only [fpM, List.mem_cons]; exact .inr (.inl h1))
    · exact .inl (by simp only [fpM, List.mem_cons]; exact .inr (.inr h1))
    · exact .inr (.inl h1)
    · exact .inr (.inr (hrl k h1))
end
end E
end Go.Proofs.YtmplkogkphmmjagGreat

/- The landed machine: result, Result; all that is to be shown of package machine. -/
namespace Go.Proofs.YtmplkogkphmmjagGreat
set_option maxRecDepth 20000
set_option maxHeartbeats 4000000
namespace E
open Go.Proofs

abbrev tRs : Nat := 45
theorem built_rs (c : Int) (a : Option Addr) (n k : Nat) : Tryz.prog.built tRs [(0, .int .i64 c), (1, .slice a n k)] = some (resC c (.slice a n k) (.slice none 0 0)).toArray := by kernel_rfl
theorem pbuilt0 : Tryz.prog.built tPr [] = some pz0.toArray := by kernel_rfl
section
variable {Y : Nat → List Int → Prop} {Z : List Int} {R : Nat → Prop} {B : Nat} {w w' : World} {x : Nat} {fp : List Nat} {M : Mx}

theorem Vx.prn {O : Mo} {E : List Int → Prop} (h : Vx Y R B w x fp O E) : ∃ fq, PVm R B w O.q fq O.pr := by
  obtain ⟨d, s, S, W, D, wv, cv, iv, pv, rfl, h, _⟩ := h
  exact ⟨_, pv, rfl, h.pr⟩
theorem mresult0_ret (h : Vm Y Z R B w x fp M) (hp : M.pr.2 = false) (hst : M.md.state ≤ 1000) : Ret Tryz.prog 47 [.pointer (some ⟨x, 0, none⟩)] w fun r w' => r = .int .i64 (codeB M.md M.pr) ∧ Keep [] w w' := by
  have hp' : M.o.pr.2 = false := hp
  refine ret_of 21 Tryz.func47 rfl rfl (by simp) ?_
  unfold codeB
  rw [if_neg (by rw [hp]; decide)]
  refine au ?_
  refine pl_val _ rfl rfl (val_load1 hT rfl rfl rfl (h.ptr)) ?_
  refine pl_op rfl rfl (opTo_call (fst := []) (cap := []) rfl rfl rfl rfl (by decide +kernel) ((h.load 4 (M.md.state : Nat) fun W hl e => loadW_at e.state (by decide)).mono ?_))
  rintro r w0 ⟨rfl, hww⟩
  rw [hww]
  refine au ?_
  by_cases h0 : M.md.state = 0
  · rw [if_pos h0]
    refine ye ?_
    refine au ?_
    exact rn_ret Tryz.func47 (.inl ⟨_, rfl, rfl⟩) ⟨rfl, Keep.refl _ _⟩
  · rw [if_neg h0]
    refine nay ?_
    refine au ?_
    by_cases h1 : M.md.state = 1
    · rw [if_neg (by omega)]
      refine ye ?_
      refine au ?_
      refine pl_val _ rfl rfl (val_load1 hT rfl rfl rfl (h.prt)) ?_
      obtain ⟨fq, hP⟩ := h.prn
      refine pl_op rfl rfl (opTo_call (fst := []) (cap := []) rfl rfl rfl rfl (by decide +kernel) ((pcode_ret hP).mono ?_))
      rintro r w1 ⟨rfl, hww⟩
      rw [hww, hp']
      refine au ?_
      exact rn_ret Tryz.func47 (.inl ⟨_, rfl, rfl⟩) ⟨rfl, Keep.refl _ _⟩
    · rw [if_pos (by omega)]
      refine nay ?_
      refine au ?_
      refine pl_num (((M.md.state : Int) + -2)) rfl rfl rfl rfl rfl (by simp only [ariP]; omega) ?_
      refine au ?_
      exact rn_ret Tryz.func47 (.inl ⟨_, rfl, rfl⟩) ⟨by rw [Int.sub_eq_add_neg], Keep.refl _ _⟩

theorem mresult_ret {n : Nat} (h : Vm Y Z R B w x fp M) (hp : M.pr.2 = false) (hst : M.md.state ≤ 1000) (hpl : M.pr.1.length ≤ 400000) (hc : M.md.cells.length ≤ 48) (hn : n ≤ M.md.cells.length) :
    Ret Tryz.prog 30 [.pointer (some ⟨x, 0, none⟩), .int .i64 (n : Nat)] w fun r w' => (∃ ov cv, r = .agg (resC (codeB M.md M.pr) ov cv).toArray ∧ RowL w' w.heap.size ov M.pr.1 ∧ RowL w' w.heap.size cv (M.md.cells.take n)) ∧ Keep [] w w' := by
  obtain ⟨cd, hcd⟩ : ∃ cd, cd = codeB M.md M.pr := ⟨_, rfl⟩
  rw [← hcd]
  refine ret_of 30 Tryz.func30 rfl rfl (by simp) ?_
  refine auj ?_
  refine rn_seq ?_
  refine rn_plain ?_
  refine pl_op rfl rfl (opTo_allocN _ rfl zero_re ?_)
  intro w1 x4 hx4 hs1 hk1 hb1
  refine auj ?_
  refine rn_seq ?_
  have h1 := Vx.keep0 h hk1
  refine rn_with (fun σ' w' => ∃ g ov, Blk w' g (resC cd ov (.slice none 0 0)) tRs ∧ w1.heap.size ≤ g ∧ RowL w' w1.heap.size ov M.pr.1 ∧ Keep [] w1 w' ∧ Sub [(0, .pointer (some ⟨x, 0, none⟩)), (1, .int .i64 (n : Nat)), (4, .pointer (some ⟨x4, 0, none⟩)), (5, .pointer (some ⟨g, 0, none⟩))] σ') ?_ ?_
  rotate_left
  · intro fin1
    refine rn_draw (fun w' => Keep [] w1 w') [9] hMix ?_
    have hS : Keep [] w1 w1.drew := (Keep.refl _ _).drew
    generalize w1.drew = w2 at *
    refine dr_with 1 511 (fun σ' w' => ∃ g ov, Blk w' g (resC 0 (.slice none 0 0) (.slice none 0 0)) tRs ∧ w1.heap.size ≤ g ∧ (∃ a k, ov = .slice a M.pr.1.length k) ∧ RowL w' w1.heap.size ov M.pr.1 ∧ Keep [] w1 w' ∧ Sub [(0, .pointer (some ⟨x, 0, none⟩)), (1, .int .i64 (n : Nat)), (4, .pointer (some ⟨x4, 0, none⟩)), (5, .pointer (some ⟨g, 0, none⟩)), (14, .agg (resC cd ov (.slice none 0 0)).toArray)] σ') ?_ ?_
    · rintro σ' w3 ⟨g, ov, hg, hgw, ⟨oa, ok, rfl⟩, hov, hS3, hsub⟩
      refine dr_sub hsub ?_
      refine dr_op 9 rfl (by decide +kernel) rfl rfl (opTo_storeN (resC cd (.slice oa M.pr.1.length ok) (.slice none 0 0)) rfl rfl rfl rfl size_re hg (by simp [resC]) (resC_one _ _ _ _ _ _ _) ?_)
      intro w4 hs4 hk4 hb4
      rw [splice_whole (by rfl)] at hb4
      refine ⟨fun h => absurd (by simp) h, ?_⟩
      refine dr_done (by decide +kernel) ?_
      exact fin1 _ _ ⟨g, _, hb4, hgw, hov.keep hk4 (hov.ne hg (by decide)), hS3.trB hk4 hgw, rfl, rfl, rfl, rfl, trivial⟩
    intro fin2
    refine tk 0 ?_
    refine tk 2 ?_
    refine tk 3 ?_
    refine tk 4 ?_
    obtain ⟨cv, iv, hbk, _, _, _⟩ := h1.bk
    refine dr_val 5 (.pointer (some ⟨M.q, 0, none⟩)) rfl (by decide +kernel) rfl rfl (fun w9 hS9 => val_load1 hT rfl rfl rfl ((hS9.blk hbk (by simp)).cell rfl)) hS ?_
    have res : ∀ {w3 : World}, Keep [] w1 w3 → Ret Tryz.prog 47 [.pointer (some ⟨x, 0, none⟩)] w3 fun r w' => r = .int .i64 cd ∧ Keep [] w3 w' := fun {w3} hk => by
      rw [hcd]
      exact mresult0_ret (Vx.keep0 h1 hk) hp hst
    have lst : ∀ {w3 : World}, Keep [] w1 w3 → Ret Tryz.prog 48 [.pointer (some ⟨M.q, 0, none⟩)] w3 fun r w' => RowL w' w1.heap.size r M.pr.1 ∧ Keep [] w3 w' := fun {w3} hk => by
      obtain ⟨fq, hP⟩ := (Vx.keep0 h1 hk).prn
      refine (plist_ret hP hpl).mono ?_
      rintro r w' ⟨hr, hk'⟩
      exact ⟨hr.low hk.size, hk'⟩
    refine dr_op2 1 8 rfl rfl (by decide +kernel) rfl rfl rfl rfl ?_ ?_
    · refine opTo_call (fst := []) (cap := []) rfl rfl rfl rfl (by decide +kernel) ((res hS).mono ?_)
      rintro r w3 ⟨rfl, hk3⟩
      have hS3 := hS.tr hk3
      refine ⟨fun _ => hS3, ?_⟩
      refine dr_op2 6 8 rfl rfl (by decide +kernel) rfl rfl rfl rfl ?_ ?_
      · refine opTo_call (fst := []) (cap := []) rfl rfl rfl rfl (by decide +kernel) ((lst hS3).mono ?_)
        rintro r w4 ⟨hr, hk4⟩
        have hS4 := hS3.tr hk4
        obtain ⟨oa, ok, rfl⟩ := hr.form
        refine ⟨fun _ => hS4, ?_⟩
        refine dr_any 7 _ rfl (by decide +kernel) rfl rfl (fun w => val_build _ rfl rfl (built_rs cd oa M.pr.1.length ok) w) ?_
        refine dr_op 8 rfl (by decide +kernel) rfl rfl (opTo_allocN _ rfl zero_re ?_)
        intro w5 g hg hs5 hk5 hb5
        refine ⟨fun _ => hS4.tr hk5, ?_⟩
        exact fin2 _ _ ⟨g, _, hb5, by have := hS4.size; omega, ⟨_, _, rfl⟩, hr.keep hk5 (fun _ _ => by simp), hS4.tr hk5, rfl, rfl, rfl, rfl, rfl, trivial⟩
      · refine opTo_allocN _ rfl zero_re ?_
        intro w4 g hg hs4 hk4 hb4
        have hS4 := hS3.tr hk4
        refine ⟨fun _ => hS4, ?_⟩
        refine dr_op 6 rfl (by decide +kernel) rfl rfl (opTo_call (fst := []) (cap := []) rfl rfl rfl rfl (by decide +kernel) ((lst hS4).mono ?_))
        rintro r w5 ⟨hr, hk5⟩
        obtain ⟨oa, ok, rfl⟩ := hr.form
        refine ⟨fun _ => hS4.tr hk5, ?_⟩
        refine dr_any 7 _ rfl (by decide +kernel) rfl rfl (fun w => val_build _ rfl rfl (built_rs cd oa M.pr.1.length ok) w) ?_
        exact fin2 _ _ ⟨g, _, hk5.blk hb4 (by simp), by have := hS3.size; omega, ⟨_, _, rfl⟩, hr, hS4.tr hk5, rfl, rfl, rfl, rfl, rfl, trivial⟩
    · refine opTo_allocN _ rfl zero_re ?_
      intro w3 g hg hs3 hk3 hb3
      have hS3 := hS.tr hk3
      refine ⟨fun _ => hS3, ?_⟩
      refine dr_op 1 rfl (by decide +kernel) rfl rfl (opTo_call (fst := []) (cap := []) rfl rfl rfl rfl (by decide +kernel) ((res hS3).mono ?_))
      rintro r w4 ⟨rfl, hk4⟩
      have hS4 := hS3.tr hk4
      refine ⟨fun _ => hS4, ?_⟩
      refine dr_op 6 rfl (by decide +kernel) rfl rfl (opTo_call (fst := []) (cap := []) rfl rfl rfl rfl (by decide +kernel) ((lst hS4).mono ?_))
      rintro r w5 ⟨hr, hk5⟩
      obtain ⟨oa, ok, rfl⟩ := hr.form
      refine ⟨fun _ => hS4.tr hk5, ?_⟩
      refine dr_any 7 _ rfl (by decide +kernel) rfl rfl (fun w => val_build _ rfl rfl (built_rs cd oa M.pr.1.length ok) w) ?_
      exact fin2 _ _ ⟨g, _, hk5.blk (hk4.blk hb3 (by simp)) (by simp), by have := hS.size; omega, ⟨_, _, rfl⟩, hr, hS4.tr hk5, rfl, rfl, rfl, rfl, rfl, trivial⟩
  rintro σ w2 ⟨g, ov, hg, hgw, hov, hk2, hsub⟩
  refine rn_sub hsub ?_
  clear hsub
  refine au ?_
  refine pl_val (.int .i64 (n : Nat)) rfl rfl (mval_min _ rfl rfl rfl (by rw [if_neg (by omega)]) _) ?_
  refine au ?_
  refine rn_ind (fun t σ w' => ∃ (j : Nat) (c2 : Value), j ≤ n ∧ t = n - j ∧ σ = [(0, .pointer (some ⟨x, 0, none⟩)), (4, .pointer (some ⟨x4, 0, none⟩)), (5, .pointer (some ⟨g, 0, none⟩)), (16, .int .i64 (n : Nat)), (17, .int .i64 (j : Nat))] ∧ Keep [] w1 w' ∧ Blk w' g (resC cd ov c2) tRs ∧ RowL w' w1.heap.size ov M.pr.1 ∧ RowL w' w1.heap.size c2 (M.md.cells.take j) ∧ Apt ov c2)
    n _ ?_ ⟨0, .slice none 0 0, Nat.zero_le _, rfl, rfl, hk2, hg, hov, RowL.nil _ _, fun k _ hm => by simp [obs, Value.ownBlock] at hm⟩ ?_
  · exact ⟨rfl, rfl, rfl, rfl, rfl, trivial⟩
  clear hg hov hk2
  rintro t σ w3 ih ⟨j, c2, hj, rfl, rfl, hk3, hg, hov, hc2, hap⟩
  have hjl : (M.md.cells.take j).length = j := by rw [List.length_take]; omega
  obtain ⟨c2a, c2k, hc2v⟩ := hc2.form
  rw [hjl] at hc2v
  subst hc2v
  refine au ?_
  by_cases hlt : j < n
  · refine ye ?_
    refine au ?_
    refine rn_draw (fun w' => Keep [] w3 w') [6, 8] hMix ?_
    have hS : Keep [] w3 w3.drew := (Keep.refl _ _).drew
    generalize w3.drew = w4 at *
    have hja : j < M.md.cells.length := by omega
    refine tk 0 ?_
    refine dr_val 1 (.slice c2a j c2k) rfl (by decide +kernel) rfl rfl (fun w9 hS9 => val_load1 hT rfl rfl rfl ((hS9.blk hg (by simp)).cell rfl)) hS ?_
    refine tk 2 ?_
    refine tk 3 ?_
    refine dr_op 4 rfl (by decide +kernel) rfl rfl (opTo_call (fst := []) (cap := []) rfl rfl rfl rfl (by decide +kernel) ((mcell_at (Vx.keep0 h1 (hk3.tr hS)) hc hja).mono ?_))
    rintro r w4' ⟨rfl, hww⟩
    rw [hww]
    refine ⟨fun _ => hS, ?_⟩
    obtain ⟨v, hv⟩ : ∃ v, v = cellAt M.md.cells ((j : Nat) : Int) := ⟨_, rfl⟩
    rw [← hv]
    refine dr_op 5 rfl (by decide +kernel) rfl rfl (opTo_sliceN tLg [.int .i64 v] rfl rfl (slice_lg v) ?_)
    intro w5 g5 hg5 hs5 hk5 hb5
    refine ⟨fun _ => hS.tr hk5, ?_⟩
    have hc25 : Own w5 w1.heap.size tLg 1 (.slice c2a j c2k) j (lgs (M.md.cells.take j)) := by
      have := hc2.keep (hS.tr hk5) (fun _ _ => by simp)
      unfold RowL at this
      rw [hjl] at this
      exact this
    refine dr_op 6 rfl (by decide +kernel) rfl rfl (opTo_app w1.heap.size tLg 1 8 (lgs (M.md.cells.take j)) [.int .i64 v] rfl rfl rfl app_lg hc25 (hb5.range rfl) rfl (one_v rfl) (by decide) (by unfold maxLen; omega) (by omega) ((hk3.tr hS).tr hk5).size ?_)
    intro g2 cap w6 hown hcase
    refine ⟨fun h => absurd (by simp) h, ?_⟩
    have htk : M.md.cells.take (j + 1) = M.md.cells.take j ++ [v] := by
      rw [List.take_add_one, cellAt_nat hja, hv]
      rfl
    have hrow : RowL w6 w1.heap.size (.slice (some ⟨g2, 0, none⟩) (j + 1) cap) (M.md.cells.take (j + 1)) := by
      have e2 : lgs (M.md.cells.take (j + 1)) = lgs (M.md.cells.take j) ++ [.int .i64 v] := by rw [htk, lgs_app]; rfl
      unfold RowL
      rw [show (M.md.cells.take (j + 1)).length = j + 1 by rw [List.length_take]; omega, e2]
      exact hown
    have hk6 : Keep (obs (.slice c2a j c2k)) w5 w6 := by
      rcases hcase with ⟨h3, _, h4⟩ | ⟨_, h4, _⟩
      · rw [obs, h3]; exact h4
      · exact h4.of0
    have hob : ∀ y ∈ obs (.slice (some ⟨g2, 0, none⟩) (j + 1) cap), y ∈ obs (.slice c2a j c2k) ∨ w5.heap.size ≤ y := fun y hy => by
      have hy : y = g2 := by simpa [obs, Value.ownBlock] using hy
      subst hy
      rcases hcase with ⟨h3, _, _⟩ | ⟨h3, _, _⟩
      · exact .inl (mem_obs.2 h3)
      · exact .inr (by omega)
    have hg5b := (hS.tr hk5).blk hg (by simp)
    have hc25' : RowL w5 w1.heap.size (.slice c2a j c2k) (M.md.cells.take j) := hc2.keep (hS.tr hk5) (fun _ _ => by simp)
    have hg6 := hk6.blk hg5b fun hm => hc25'.ne hg5b (by decide) g hm (by simp)
    have hov5 := hov.keep (hS.tr hk5) (fun _ _ => by simp)
    have hov6 := hov5.keep hk6 fun y hy => hap y hy
    refine tk 7 ?_
    refine dr_op 8 rfl (by decide +kernel) rfl rfl (opTo_storeN [.slice (some ⟨g2, 0, none⟩) (j + 1) cap] rfl rfl rfl rfl size_ls hg6 (by simp [resC]) (one_v rfl) ?_)
    intro w7 hs7 hk7 hb7
    refine ⟨fun h => absurd (by simp) h, ?_⟩
    refine dr_done (by decide +kernel) ?_
    have hk17 : Keep [] w1 w7 := (((hk3.tr hS).tr hk5).trans hk6 fun y hy => .inr (hc25'.lt y hy).1).trB hk7 hgw
    refine au ?_
    refine pl_num (((j + 1 : Nat) : Int)) rfl rfl rfl rfl rfl (by simp only [ariP]; omega) ?_
    refine au ?_
    refine rn_sub ?_ (ih (n - (j + 1)) [(0, .pointer (some ⟨x, 0, none⟩)), (4, .pointer (some ⟨x4, 0, none⟩)), (5, .pointer (some ⟨g, 0, none⟩)), (16, .int .i64 (n : Nat)), (17, .int .i64 ((j + 1 : Nat) : Int))] w7 (by omega) ⟨j + 1, _, by omega, rfl, rfl, hk17, hb7, hov6.keep hk7 (hov6.ne hg6 (by decide)), hrow.keep hk7 (hrow.ne hg6 (by decide)), fun y hy hm => ?_⟩)
    · exact ⟨rfl, rfl, rfl, rfl, rfl, trivial⟩
    · rcases hob y hm with h3 | h3
      · exact hap y hy h3
      · have := (hov5.lt y hy).2
        omega
  · have hjn : j = n := by omega
    subst hjn
    refine nay ?_
    refine au ?_
    obtain ⟨oa, ok, hov'⟩ := hov.form
    subst hov'
    refine pl_val (.agg (resC cd (.slice oa M.pr.1.length ok) (.slice c2a j c2k)).toArray) rfl rfl (val_load (resC cd (.slice oa M.pr.1.length ok) (.slice c2a j c2k)) hT rfl rfl rfl (hg.range (by rfl))) ?_
    have hb3 := hk3.blk hb1 (by simp)
    refine pl_op rfl rfl (opTo_storeN (resC cd (.slice oa M.pr.1.length ok) (.slice c2a j c2k)) rfl rfl rfl rfl size_re hb3 (by simp [resC]) (resC_one _ _ _ _ _ _ _) ?_)
    intro w4 hs4 hk4 hb4
    rw [splice_whole (by rfl)] at hb4
    refine au ?_
    exact rn_ret Tryz.func30 (.inr (.inr (.inl ⟨_, _, _, rfl, rfl, blk_loadVar hT hb4 rfl⟩))) ⟨⟨_, _, rfl, (hov.keep hk4 (hov.ne hb3 (by decide))).low hk1.size, RowL.low (hc2.keep hk4 (hc2.ne hb3 (by decide))) hk1.size⟩, (hk1.tr hk3).trB hk4 (by omega)⟩
end

/-! ### Its words, whole -/
/-- The words in which a mind stands; elsewhere those of Z. -/
def ovr (Z : List Int) (m : Md) : List Int := (List.range 112).map fun j =>
  if j = 0 then (m.next : Int) else if j = 1 then (m.stack.length : Int) else if j = 2 then (m.read : Int) else if j = 3 then (m.out : Int) else if j = 4 then (m.state : Int)
  else if j < 53 then (if j - 5 < m.cells.length then m.cells.getD (j - 5) 0 else Z.getD j 0) else (if j - 53 < m.stack.length then m.stack.getD (j - 53) 0 else Z.getD j 0)
theorem ovr_length (Z : List Int) (m : Md) : (ovr Z m).length = 112 := by simp [ovr]
theorem getD_some {l : List Int} {i : Nat} (h : i < l.length) : l[i]? = some (l.getD i 0) := by
  rw [List.getD_eq_getElem?_getD, List.getElem?_eq_getElem h]
  rfl
theorem Enb.whole {Z W : List Int} {m : Md} (h : Enb Z W m) (hW : W.length = 112) (hZ : Z.length = 112) (hc : m.cells.length ≤ 48) : W = ovr Z m := by
  refine List.ext_getElem? fun j => ?_
  by_cases hj : j < 112
  · have hr : (ovr Z m)[j]? = some (if j = 0 then (m.next : Int) else if j = 1 then (m.stack.length : Int) else if j = 2 then (m.read : Int) else if j = 3 then (m.out : Int) else if j = 4 then (m.state : Int)
        else if j < 53 then (if j - 5 < m.cells.length then m.cells.getD (j - 5) 0 else Z.getD j 0) else (if j - 53 < m.stack.length then m.stack.getD (j - 53) 0 else Z.getD j 0)) := by
      simp only [ovr, List.getElem?_map, List.getElem?_range hj, Option.map_some]
    rw [hr]
    by_cases e0 : j = 0
    · rw [if_pos e0, e0]; exact h.next
    rw [if_neg e0]
    by_cases e1 : j = 1
    · rw [if_pos e1, e1]; exact h.many
    rw [if_neg e1]
    by_cases e2 : j = 2
    · rw [if_pos e2, e2]; exact h.read
    rw [if_neg e2]
    by_cases e3 : j = 3
    · rw [if_pos e3, e3]; exact h.out
    rw [if_neg e3]
    by_cases e4 : j = 4
    · rw [if_pos e4, e4]; exact h.state
    rw [if_neg e4]
    by_cases e5 : j < 53
    · rw [if_pos e5]
      by_cases e6 : j - 5 < m.cells.length
      · rw [if_pos e6]
        have := h.cells (j - 5) _ (getD_some e6)
        rwa [show 5 + (j - 5) = j by omega] at this
      · rw [if_neg e6, h.agb j (by omega) (.inl e5)]
        exact getD_some (by omega)
    · rw [if_neg e5]
      by_cases e6 : j - 53 < m.stack.length
      · rw [if_pos e6]
        have := h.stack (j - 53) _ (getD_some e6)
        rwa [show 53 + (j - 53) = j by omega] at this
      · rw [if_neg e6, h.agb j (by omega) (.inr (by omega))]
        exact getD_some (by omega)
  · rw [List.getElem?_eq_none (by omega), List.getElem?_eq_none (by rw [ovr_length]; omega)]

/-- A machine at x, with its words. -/
def Vw (Y : Nat → List Int → Prop) (R : Nat → Prop) (B : Nat) (w : World) (x : Nat) (fp : List Nat) (M : Mx) (W : List Int) : Prop := Vx Y R B w x fp M.o fun W' => Enc W' M.md ∧ W' = W
/-- Its disk is at d, and holds the words KW. -/
def Yk (d : Nat) (KW : List Int) : Nat → List Int → Prop := fun d' S => d' = d ∧ allS S = KW
/-- The words behind one instruction. -/
def nwL (L : List Is) (inp : List Int) (m : Md) (W : List Int) : List Int := ovr W (stB L inp m ([], false)).1
theorem stB_fst (L : List Is) (inp : List Int) (m : Md) (p p' : Pr) : (stB L inp m p).1 = (stB L inp m p').1 := by
  unfold stB
  split
  · exact exI_fst _ _ _ _ _
  · rfl

section
variable {Y : Nat → List Int → Prop} {R : Nat → Prop} {B : Nat} {w w' : World} {x : Nat} {fp : List Nat} {M : Mx} {W KW : List Int} {d : Nat}
theorem Vw.len (h : Vw Y R B w x fp M W) : W.length = 112 := by
  obtain ⟨d, s, S, W', D, wv, cv, iv, pv, rfl, h, ⟨_, rfl⟩, _⟩ := h
  exact h.st.mem.wl
theorem Vw.m (h : Vw Y R B w x fp M W) : Vm Y W R B w x fp M := Vx.mono h fun _ _ e => ⟨e.1, fun j _ => by rw [e.2]⟩
theorem Vp.full {Z : List Int} (h : Vp Y Z R B w x fp M) (hZ : Z.length = 112) (hc : M.md.cells.length ≤ 48) : Vw Y R B w x fp M (ovr Z M.md) := Vx.mono h fun _ hl e => ⟨e.toEnc, e.whole hl hZ hc⟩
/-- One instruction, its words and those that are committed. -/
theorem mstep_w {c i : Nat} {Q : List Is} (h : Vw (Yk d KW) R B w x fp M W) (ho : Wo c Q M i) (hi : i ≤ 400000) (hs : M.md.state = 0) (hl : comB M.L M.md = true → M.left = 0 ∧ M.torn = false) :
    Ret Tryz.prog 43 [.pointer (some ⟨x, 0, none⟩)] w fun r w' => r = .bool true ∧ ∃ fp', Vw (Yk d (if comB M.L M.md then nwL M.L M.inp M.md W else KW)) R B w' x fp' (M.go (if comB M.L M.md then M.gen + 1 else M.gen)) (nwL M.L M.inp M.md W) ∧ Keep fp w w' ∧ ∀ k ∈ fp', k ∈ fp ∨ w.heap.size ≤ k := by
  have hcc := ho.fit.cells
  have hc48 := ho.c48
  have hmd : ∀ g, (M.go g).md = (stB M.L M.inp M.md ([], false)).1 := fun g => stB_fst _ _ _ _ _
  have hbn := (stB_bnd M.L M.inp M.md ([], false) ho.state).2.2.2
  refine (mstep_ret (Y' := Yk d (if comB M.L M.md then nwL M.L M.inp M.md W else KW)) h.m ho hi hs hl ?_ ?_).mono ?_
  · rintro hcm d' S S2 W' ⟨rfl, _⟩ he hl' hS
    refine ⟨rfl, ?_⟩
    rw [hcm, if_pos rfl, hS, he.b.whole hl' h.len (by show M.md.cells.length ≤ 48; omega)]
    unfold nwL
    have e : (M.at M.md).md = (stB M.L M.inp M.md ([], false)).1 := by
      have h15 : (M.L.getD M.md.next (0, 0, 0, 0)).1 = 15 := by
        unfold comB at hcm
        simp only [Bool.and_eq_true, decide_eq_true_eq] at hcm
        exact hcm.2
      unfold stB
      rw [if_pos hs]
      generalize M.L.getD M.md.next (0, 0, 0, 0) = y at h15 ⊢
      obtain ⟨op, A, K, N⟩ := y
      simp only at h15
      subst h15
      rfl
    rw [e]
  · rintro hcm d' S ⟨rfl, hS⟩
    exact ⟨rfl, by rw [hcm, if_neg (by decide)]; exact hS⟩
  · rintro r w' ⟨rfl, fp', h', hk, hf⟩
    refine ⟨rfl, fp', ?_, hk, hf⟩
    have h2 := h'.full h.len (by rw [hmd, hbn]; omega)
    rw [hmd] at h2
    exact h2
theorem maskB_zero (mask : Nat) : maskB ((mask : Nat) : Int) 0 = decide (mask % 2 = 1) := by
  unfold maskB
  have e : ((mask : Nat) : Int).fdiv (2 ^ (0 % 64)) = (mask : Nat) := by simp
  rw [e]
  have e2 : (BitVec.ofInt 64 ((mask : Nat) : Int) &&& BitVec.ofInt 64 1).toNat = mask % 2 := by
    have h1 : BitVec.ofInt 64 1 = 1#64 := by decide
    rw [h1, BitVec.toNat_and, BitVec.ofInt_natCast, BitVec.toNat_ofNat, BitVec.toNat_ofNat, show 1 % 2 ^ 64 = 1 by decide, Nat.and_one_is_mod]
    omega
  rw [e2]
  have h2 : mask % 2 = 0 ∨ mask % 2 = 1 := by omega
  rcases h2 with h2 | h2 <;> rw [h2] <;> decide
/-- Behind a torn commit the disk crashes: what stands on it then. -/
theorem TnD.crash {E : List Int → Prop} {O : Mo} (h : TnD (Yk d KW) E R B w w' fp O) (h0 : 0 < O.left) (mask : Nat) :
    ∃ W, E W ∧ W.length = 112 ∧ Ret Tryz.prog 45 [.pointer (some ⟨d, 0, none⟩), .int .u64 (mask : Nat)] w' fun r w'' => r = .tuple #[] ∧ Keep [d] w' w'' ∧ ∃ S2, DiskV B w'' d S2 [] (.slice none 0 0) ∧ Good S2 ∧
      allS S2 = (if O.left = 1 ∧ mask % 2 = 1 then W else KW) ∧ genS S2 = (if O.left = 1 ∧ mask % 2 = 1 then O.gen + 1 else O.gen) := by
  obtain ⟨d', S, W, D, wv, pv, he, ⟨rfl, hK⟩, hl, hG, ht, hgen, hd, _⟩ := h
  refine ⟨W, he, hl, ?_⟩
  have hlen : (dirtyPs W D).length ≤ 14 := dirtyTo_len W D 14
  have hcv := (commit_view hG (chk_dirty W D) (dirtyTo_wf hl D (by decide))).2 (((dirtyPs W D).length : Int) + 5 - O.left).toNat (by omega) (maskB (mask : Nat))
  have hll : (doDeeds ((deedsOf S (dirtyPs W D)).take (((dirtyPs W D).length : Int) + 5 - O.left).toNat) (S, [])).2.length < 1000000 := by
    have h1 := doDeeds_len ((deedsOf S (dirtyPs W D)).take (((dirtyPs W D).length : Int) + 5 - O.left).toNat) (S, [])
    have h2 : ((deedsOf S (dirtyPs W D)).take (((dirtyPs W D).length : Int) + 5 - O.left).toNat).length ≤ (((dirtyPs W D).length : Int) + 5 - O.left).toNat := by rw [List.length_take]; omega
    simp only [List.length_nil] at h1
    omega
  refine (crash_ret hd hll (mask : Nat)).mono ?_
  rintro r w'' ⟨rfl, hd2, hk2⟩
  refine ⟨rfl, hk2, _, hd2, ?_⟩
  by_cases hc : O.left = 1 ∧ mask % 2 = 1
  · have hN := hcv.1 ⟨by omega, by rw [maskB_zero]; simp [hc.2]⟩
    rw [if_pos hc, if_pos hc]
    exact ⟨hN.good, allS_eq hl (hN.all ht), by rw [hN.gen, hgen]⟩
  · have hS := hcv.2 fun h => hc ⟨by omega, by rw [maskB_zero] at h; simpa using h.2⟩
    rw [if_neg hc, if_neg hc]
    refine ⟨hS.good, ?_, by rw [hS.gen, hgen]⟩
    rw [← hK]
    unfold allS catS
    simp only [hS.read]
end
end E
end Go.Proofs.YtmplkogkphmmjagGreat

/- Plain mathematics of a life: what it is in, is in order. -/
namespace Go.Proofs.YtmplkogkphmmjagGreat
set_option maxRecDepth 20000
set_option maxHeartbeats 4000000
namespace E
open Go.Proofs

theorem exI_stack (inp : List Int) (x : Is) (m : Md) (p : Pr) : (exI inp x m p).1.stack.length ≤ m.stack.length + 1 := by
  simp only [exI, apply_ite Prod.fst, apply_ite Md.stack, apply_ite List.length, List.length_append, List.length_dropLast, List.length_cons, List.length_nil]
  repeat' split
  all_goals omega
theorem pu_stack {Q : List Is} {inp : List Int} {c : Nat} (hQ : Sim c 0 Q 0) (hJ : Jmps c 0 Q) : ∀ (n : Nat), (pu (Q ++ [haltI]) inp c n).1.stack.length ≤ 25
  | 0 => by simp [pu, runB, mind0]
  | n + 1 => by
    rw [pu_succ]
    unfold stB
    split
    · rename_i hs
      have h1 := ((pu_fit (inp := inp) hQ hJ n).sim hs).le (by decide)
      have h2 := exI_stack inp ((Q ++ [haltI]).getD (pu (Q ++ [haltI]) inp c n).1.next (0, 0, 0, 0)) (pu (Q ++ [haltI]) inp c n).1 (pu (Q ++ [haltI]) inp c n).2
      omega
    · exact pu_stack hQ hJ n
/-- What a life is in, is in order. -/
theorem InvL.fit {Q : List Is} {inp : List Int} {c : Nat} {x : Lf} {g : Nat} (h : InvL (Q ++ [haltI]) inp c x g) (hP : Prg c Q) : Fit c Q x.m x.p ∧ x.p.1.length ≤ g ∧ x.m.read ≤ g ∧ x.m.state ≤ 14 ∧ x.k.stack.length ≤ 25 ∧ (x.k.cells.length : Int) = c ∧ x.p.2 = false := by
  obtain ⟨a, b, e1, e2, e3, h1, h2⟩ := h
  have fa := pu_fit (inp := inp) hP.sim hP.jmp a
  have fb := pu_fit (inp := inp) hP.sim hP.jmp b
  obtain ⟨b1, b2, b3⟩ := pu_bounds (W := Q ++ [haltI]) (inp := inp) (c := c) a
  obtain ⟨_, d2, _⟩ := pu_bounds (W := Q ++ [haltI]) (inp := inp) (c := c) g
  have ho := (pu_out (W := Q ++ [haltI]) (inp := inp) (c := c) a).1
  have hpre := (pu_pre (W := Q ++ [haltI]) (inp := inp) (c := c) h1).length_le
  refine ⟨?_, by rw [e3]; exact d2, by rw [e1]; omega, by rw [e1]; exact b3, by rw [e2]; exact pu_stack hP.sim hP.jmp b, by rw [e2]; exact fb.cells, by rw [e3]; exact (pu_out g).2⟩
  rw [e1, e3]
  exact ⟨fa.cells, by omega, fa.next, fa.sim⟩
end E
end Go.Proofs.YtmplkogkphmmjagGreat
