/- Several texts in one: MwC, MwD, MwE. -/
import Derived.Test.YtmplkogkphmmjafGreatJ16
/- The landed machine: contracts of truth, reckon, says, getCell, putCell, print, read. -/
namespace Go.Proofs.YtmplkogkphmmjafGreat
set_option maxRecDepth 20000
set_option maxHeartbeats 4000000
namespace E
open Go.Proofs

theorem mtruth_ret (b : Bool) (w : World) : Ret Tryz.prog 134 [.bool b] w fun r w' => r = .int .i64 (bitI b) ∧ w' = w := by
  refine ret_of 4 Tryz.func134 rfl rfl (by simp) ?_
  cases b
  · refine au ?_
    exact rn_ret Tryz.func134 (.inl ⟨_, rfl, rfl⟩) ⟨rfl, rfl⟩
  · refine au ?_
    exact rn_ret Tryz.func134 (.inl ⟨_, rfl, rfl⟩) ⟨rfl, rfl⟩

theorem mreckon_ret (op a b : Int) (hop : 4 ≤ op ∧ op ≤ 8) (w : World) : Ret Tryz.prog 114 [.int .i64 op, .int .i64 a, .int .i64 b] w fun r w' => r = .int .i64 (ariI op a b) ∧ w' = w := by
  have hc : op = 4 ∨ op = 5 ∨ op = 6 ∨ op = 7 ∨ op = 8 := by omega
  refine ret_of 33 Tryz.func114 rfl rfl (by simp) ?_
  rcases hc with rfl | rfl | rfl | rfl | rfl
  · have he : ariI 4 a b = IntKind.i64.wrap (a + b) := if_pos rfl
    rw [he]
    generalize hz : IntKind.i64.wrap (a + b) = z
    refine aub ?_
    refine pl_val (.int .i64 z) rfl rfl (val_int .i64 a b _ rfl rfl rfl (by rw [← hz]; simp only [intOp]) w) ?_
    refine au ?_
    exact rn_ret Tryz.func114 (.inl ⟨_, rfl, rfl⟩) ⟨rfl, rfl⟩
  · have he : ariI 5 a b = IntKind.i64.wrap (a - b) := by unfold ariI; rw [if_neg (by decide), if_pos rfl]
    rw [he]
    generalize hz : IntKind.i64.wrap (a - b) = z
    refine aub ?_
    refine pl_val (.int .i64 z) rfl rfl (val_int .i64 a b _ rfl rfl rfl (by rw [← hz]; simp only [intOp]) w) ?_
    refine au ?_
    exact rn_ret Tryz.func114 (.inl ⟨_, rfl, rfl⟩) ⟨rfl, rfl⟩
  · have he : ariI 6 a b = IntKind.i64.wrap (a * b) := by unfold ariI; rw [if_neg (by decide), if_neg (by decide), if_pos rfl]
    rw [he]
    generalize hz : IntKind.i64.wrap (a * b) = z
    refine aub ?_
    refine pl_val (.int .i64 z) rfl rfl (val_int .i64 a b _ rfl rfl rfl (by rw [← hz]; simp only [intOp]) w) ?_
    refine au ?_
    exact rn_ret Tryz.func114 (.inl ⟨_, rfl, rfl⟩) ⟨rfl, rfl⟩
  · refine aub ?_
    have he : ariI 7 a b = bitI (decide (a < b)) := by unfold ariI; rw [if_neg (by decide), if_neg (by decide), if_neg (by decide), if_pos rfl]
    by_cases hl : a < b
    · refine ye ?_
      refine pl_op rfl rfl (opTo_call (fst := []) (cap := []) rfl rfl rfl rfl (by decide +kernel) ((mtruth_ret true w).mono ?_))
      rintro r w1 ⟨rfl, hww⟩
      rw [hww]
      refine au ?_
      exact rn_ret Tryz.func114 (.inl ⟨_, rfl, rfl⟩) ⟨by rw [he]; simp [hl], rfl⟩
    · refine nay ?_
      refine pl_op rfl rfl (opTo_call (fst := []) (cap := []) rfl rfl rfl rfl (by decide +kernel) ((mtruth_ret false w).mono ?_))
      rintro r w1 ⟨rfl, hww⟩
      rw [hww]
      refine au ?_
      exact rn_ret Tryz.func114 (.inl ⟨_, rfl, rfl⟩) ⟨by rw [he]; simp [hl], rfl⟩
  · refine aub ?_
    have he : ariI 8 a b = bitI (a == b) := by unfold ariI; rw [if_neg (by decide), if_neg (by decide), if_neg (by decide), if_neg (by decide)]
    by_cases hl : a = b
    · refine ye ?_
      refine pl_op rfl rfl (opTo_call (fst := []) (cap := []) rfl rfl rfl rfl (by decide +kernel) ((mtruth_ret true w).mono ?_))
      rintro r w1 ⟨rfl, hww⟩
      rw [hww]
      refine au ?_
      exact rn_ret Tryz.func114 (.inl ⟨_, rfl, rfl⟩) ⟨by rw [he, hl, beq_self_eq_true], rfl⟩
    · refine nay ?_
      refine pl_op rfl rfl (opTo_call (fst := []) (cap := []) rfl rfl rfl rfl (by decide +kernel) ((mtruth_ret false w).mono ?_))
      rintro r w1 ⟨rfl, hww⟩
      rw [hww]
      refine au ?_
      exact rn_ret Tryz.func114 (.inl ⟨_, rfl, rfl⟩) ⟨by rw [he, beq_eq_false_iff_ne.2 hl], rfl⟩

def sayB (k n : Int) : Bool := decide (0 ≤ n ∧ n < k)
theorem msays_ret (i : Is) (n : Int) (w : World) : Ret Tryz.prog 132 [.agg (iC i).toArray, .int .i64 n] w fun r w' => r = .bool (sayB i.2.2.1 n) ∧ Keep [] w w' := by
  refine ret_of 13 Tryz.func132 rfl rfl (by simp) ?_
  refine au ?_
  refine pl_op rfl rfl (opTo_boxN (iC i) rfl rfl rfl ?_)
  intro w1 x1 hx1 hs1 hk1 hb1
  refine au ?_
  by_cases h0 : 0 ≤ n
  · refine ye ?_
    refine au ?_
    refine pl_val _ rfl rfl (val_load1 hT rfl rfl rfl (hb1.cell rfl)) ?_
    by_cases h1 : n < i.2.2.1
    · refine ye ?_
      refine au ?_
      exact rn_ret Tryz.func132 (.inl ⟨_, rfl, rfl⟩) ⟨by simp [sayB, h0, h1], hk1⟩
    · refine nay ?_
      refine au ?_
      exact rn_ret Tryz.func132 (.inl ⟨_, rfl, rfl⟩) ⟨by simp [sayB, h1], hk1⟩
  · refine nay ?_
    refine au ?_
    exact rn_ret Tryz.func132 (.inl ⟨_, rfl, rfl⟩) ⟨by simp [sayB, h0], hk1⟩

section
variable {Y : Nat → List Int → Prop} {Z : List Int} {R : Nat → Prop} {B : Nat} {w : World} {x : Nat} {fp : List Nat} {M : Mx}

theorem mgetCell_ret (h : Vm Y Z R B w x fp M) (i : Is) (h1 : 1 ≤ M.md.stack.length) (hs : M.md.stack.length ≤ 24) (hc : M.md.cells.length ≤ 48) (hA : 0 ≤ i.2.1) (hAB : i.2.1 + i.2.2.1 ≤ (M.md.cells.length : Int)) :
    Ret Tryz.prog 112 [.pointer (some ⟨x, 0, none⟩), .agg (iC i).toArray] w fun r w' => r = .tuple #[] ∧ Keep [M.m] w w' ∧
      Vp Y Z R B w' x fp { M with md := if 0 ≤ topS M.md.stack ∧ topS M.md.stack < i.2.2.1 then { M.md with stack := M.md.stack.dropLast ++ [cellAt M.md.cells (i.2.1 + topS M.md.stack)] } else { M.md with stack := M.md.stack.dropLast, state := 13 } } := by
  refine ret_of 21 Tryz.func112 rfl rfl (by simp) ?_
  refine au ?_
  refine pl_op rfl rfl (opTo_boxN (iC i) rfl rfl rfl ?_)
  intro w1 x1 hx1 hs1 hk1 hb1
  have hml := (h.lt _ h.mIn).2.1
  have hmx : x1 ∉ [M.m] := by
    intro hm
    have hm : x1 = M.o.m := List.mem_singleton.1 hm
    omega
  refine au ?_
  refine pl_op rfl rfl (opTo_call (fst := []) (cap := []) rfl rfl rfl rfl (by decide +kernel) ((mpop_ret (Vx.keep0 h hk1) h1 (by omega)).mono ?_))
  rintro r w2 ⟨rfl, h2, hk2⟩
  have hb2 := hk2.blk hb1 hmx
  refine au ?_
  refine pl_val (.agg (iC i).toArray) rfl rfl (val_load (iC i) hT rfl rfl rfl (hb2.range (by rfl))) ?_
  refine au ?_
  refine pl_op rfl rfl (opTo_call (fst := []) (cap := []) rfl rfl rfl rfl (by decide +kernel) ((msays_ret i (topS M.md.stack) w2).mono ?_))
  rintro r w3 ⟨rfl, hk3⟩
  have h3 := Vx.keep0 h2 hk3
  have hb3 := hk3.blk hb2 (by simp)
  have hk13 : Keep [M.m] w1 w3 := hk2.tr0 hk3
  by_cases hc0 : 0 ≤ topS M.md.stack ∧ topS M.md.stack < i.2.2.1
  · rw [if_pos hc0]
    rw [show sayB i.2.2.1 (topS M.md.stack) = true by simp [sayB, hc0]]
    obtain ⟨a, ha⟩ : ∃ a : Nat, i.2.1 + topS M.md.stack = (a : Nat) := ⟨(i.2.1 + topS M.md.stack).toNat, by omega⟩
    refine au ?_
    refine pl_val _ rfl rfl (val_load1 hT rfl rfl rfl (hb3.cell rfl)) ?_
    refine au ?_
    refine pl_num (((a : Nat) : Int)) rfl rfl rfl rfl rfl (by simp only [ariP]; omega) ?_
    refine pl_op rfl rfl (opTo_call (fst := []) (cap := []) rfl rfl rfl rfl (by decide +kernel) ((mcell_at h3 hc (a := a) (by show a < M.md.cells.length; omega)).mono ?_))
    rintro r w4 ⟨rfl, hww⟩
    rw [hww]
    refine pl_op rfl rfl (opTo_call (fst := []) (cap := []) rfl rfl rfl rfl (by decide +kernel) ((mpush_ret h3 (by show M.md.stack.dropLast.length ≤ 58; rw [List.length_dropLast]; omega) hc _).mono ?_))
    rintro r w5 ⟨rfl, h5, hk5⟩
    refine au ?_
    rw [ha]
    exact rn_end Tryz.func112 (.inr (.inl ⟨rfl, rfl⟩)) ⟨rfl, hk1.of0.tr (hk13.tr hk5), h5⟩
  · rw [if_neg hc0]
    rw [show sayB i.2.2.1 (topS M.md.stack) = false by simpa [sayB] using hc0]
    refine au ?_
    refine pl_op rfl rfl (opTo_call (fst := []) (cap := []) rfl rfl rfl rfl (by decide +kernel) ((mstop_ret h3 11 (by decide)).mono ?_))
    rintro r w4 ⟨rfl, h4, hk4⟩
    refine au ?_
    exact rn_ret Tryz.func112 (.inr (.inl ⟨rfl, rfl⟩)) ⟨rfl, hk1.of0.tr (hk13.tr hk4), h4.b⟩

theorem mputCell_ret (h : Vm Y Z R B w x fp M) (i : Is) (h1 : 2 ≤ M.md.stack.length) (hs : M.md.stack.length ≤ 24) (hc : M.md.cells.length ≤ 48) (hA : 0 ≤ i.2.1) (hAB : i.2.1 + i.2.2.1 ≤ (M.md.cells.length : Int)) :
    Ret Tryz.prog 116 [.pointer (some ⟨x, 0, none⟩), .agg (iC i).toArray] w fun r w' => r = .tuple #[] ∧ Keep [M.m] w w' ∧
      Vm Y Z R B w' x fp { M with md := if 0 ≤ topS M.md.stack.dropLast ∧ topS M.md.stack.dropLast < i.2.2.1 then { M.md with stack := M.md.stack.dropLast.dropLast, cells := M.md.cells.set (i.2.1 + topS M.md.stack.dropLast).toNat (topS M.md.stack) } else { M.md with stack := M.md.stack.dropLast.dropLast, state := 13 } } := by
  refine ret_of 23 Tryz.func116 rfl rfl (by simp) ?_
  refine au ?_
  refine pl_op rfl rfl (opTo_boxN (iC i) rfl rfl rfl ?_)
  intro w1 x1 hx1 hs1 hk1 hb1
  have hml := (h.lt _ h.mIn).2.1
  have hmx : x1 ∉ [M.m] := by
    intro hm
    have hm : x1 = M.o.m := List.mem_singleton.1 hm
    omega
  refine au ?_
  refine pl_op rfl rfl (opTo_call (fst := []) (cap := []) rfl rfl rfl rfl (by decide +kernel) ((mpop_ret (Vx.keep0 h hk1) (by omega) (by omega)).mono ?_))
  rintro r w2 ⟨rfl, h2, hk2⟩
  refine au ?_
  refine pl_op rfl rfl (opTo_call (fst := []) (cap := []) rfl rfl rfl rfl (by decide +kernel) ((mpop_ret h2 (by show 1 ≤ M.md.stack.dropLast.length; rw [List.length_dropLast]; omega) (by show M.md.stack.dropLast.length ≤ 59; rw [List.length_dropLast]; omega)).mono ?_))
  rintro r w3 ⟨rfl, h3, hk3⟩
  have hk13 : Keep [M.m] w1 w3 := hk2.tr hk3
  have hb3 := hk13.blk hb1 hmx
  refine au ?_
  refine pl_val (.agg (iC i).toArray) rfl rfl (val_load (iC i) hT rfl rfl rfl (hb3.range (by rfl))) ?_
  refine au ?_
  refine pl_op rfl rfl (opTo_call (fst := []) (cap := []) rfl rfl rfl rfl (by decide +kernel) ((msays_ret i (topS M.md.stack.dropLast) w3).mono ?_))
  rintro r w4 ⟨rfl, hk4⟩
  have h4 := Vx.keep0 h3 hk4
  have hb4 := hk4.blk hb3 (by simp)
  have hk14 : Keep [M.m] w1 w4 := hk13.tr0 hk4
  by_cases hc0 : 0 ≤ topS M.md.stack.dropLast ∧ topS M.md.stack.dropLast < i.2.2.1
  · rw [if_pos hc0]
    rw [show sayB i.2.2.1 (topS M.md.stack.dropLast) = true by simp [sayB, hc0]]
    obtain ⟨a, ha⟩ : ∃ a : Nat, i.2.1 + topS M.md.stack.dropLast = (a : Nat) := ⟨(i.2.1 + topS M.md.stack.dropLast).toNat, by omega⟩
    refine au ?_
    refine pl_val _ rfl rfl (val_load1 hT rfl rfl rfl (hb4.cell rfl)) ?_
    refine au ?_
    refine pl_num (((a : Nat) : Int)) rfl rfl rfl rfl rfl (by simp only [ariP]; omega) ?_
    refine au ?_
    refine pl_op rfl rfl (opTo_call (fst := []) (cap := []) rfl rfl rfl rfl (by decide +kernel) ((msetCell_ret h4 hc (a := a) (by show a < M.md.cells.length; omega) (topS M.md.stack)).mono ?_))
    rintro r w5 ⟨rfl, h5, hk5⟩
    refine au ?_
    rw [ha, Int.toNat_natCast]
    exact rn_end Tryz.func116 (.inr (.inl ⟨rfl, rfl⟩)) ⟨rfl, hk1.of0.tr (hk14.tr hk5), h5⟩
  · rw [if_neg hc0]
    rw [show sayB i.2.2.1 (topS M.md.stack.dropLast) = false by simpa [sayB] using hc0]
    refine au ?_
    refine pl_op rfl rfl (opTo_call (fst := []) (cap := []) rfl rfl rfl rfl (by decide +kernel) ((mstop_ret h4 11 (by decide)).mono ?_))
    rintro r w5 ⟨rfl, h5, hk5⟩
    refine au ?_
    exact rn_ret Tryz.func116 (.inr (.inl ⟨rfl, rfl⟩)) ⟨rfl, hk1.of0.tr (hk14.tr hk5), h5⟩

/-- What it prints. -/
theorem Vx.print {O : Mo} {E : List Int → Prop} (h : Vx Y R B w x fp O E) (hl : O.pr.1.length ≤ 400000) (k n : Int) : Ret Tryz.prog 135 [.pointer (some ⟨O.q, 0, none⟩), .int .i64 k, .int .i64 n] w fun r w' => r = .tuple #[] ∧ ∃ fp', Vx Y R B w' x fp' { O with pr := putI O.pr k n } E ∧ Keep fp w w' ∧ ∀ k ∈ fp', k ∈ fp ∨ w.heap.size ≤ k := by
  obtain ⟨d, s, S, W, D, wv, cv, iv, pv, rfl, h, e⟩ := h
  refine (pput_ret ⟨pv, rfl, h.pr⟩ hl k n).mono ?_
  rintro r w1 ⟨rfl, fq', ⟨pv', rfl, hp1⟩, hk1, hf1⟩
  have hq : ∀ k ∈ O.q :: obs pv, ∃ L e, Blk w k L e ∧ (e = tPr ∨ e = tLg) := fun k hk => by
    rcases List.mem_cons.1 hk with rfl | hk
    · exact ⟨_, _, h.pr.blk, .inl rfl⟩
    · obtain ⟨L, hL⟩ := h.pr.row.blk k hk
      exact ⟨L, _, hL, .inr rfl⟩
  have ne : ∀ {b : Nat} {L : List Value} {e : TypeId}, Blk w b L e → e ≠ tPr → e ≠ tLg → b ∉ O.q :: obs pv := fun {b L e} hb h1 h2 hm => by
    obtain ⟨L', e', hb', he⟩ := hq b hm
    rcases he with rfl | rfl
    · exact Blk.ne hb hb' h1 rfl
    · exact Blk.ne hb hb' h2 rfl
  have hiv : ∀ k ∈ obs iv, k ∉ O.q :: obs pv := fun k hk hm => by
    rcases List.mem_cons.1 hm with rfl | hm
    · exact h.inp.ne h.pr.blk nePL _ hk (by simp)
    · exact h.apt k hm hk
  have hdk : ∀ k ∈ fpD d wv, k ∉ O.q :: obs pv := fun k hk hm => by
    obtain ⟨L', e', hb', he⟩ := hq k hm
    rcases he with rfl | rfl
    · exact not_fp h.st.dsk hb' (by decide) hk
    · exact not_fp h.st.dsk hb' (by decide) hk
  refine ⟨rfl, _, ⟨d, s, S, W, D, wv, cv, iv, pv', rfl, ⟨⟨h.st.mem.keep hk1 (ne h.st.mem.blk (by decide) (by decide)), hk1.blk h.st.sto (ne h.st.sto (by decide) (by decide)), h.st.dsk.keep hk1 hdk, h.st.good, h.st.tied, h.st.hm⟩, h.hs, h.gen, hp1, hk1.blk h.blk (ne h.blk neMP neML), ?_, h.inp.keep hk1 hiv, h.hx, ?_, ?_⟩, e⟩, ?_, ?_⟩
  · exact h.code.keep hk1 fun c hR => ⟨h.pr.ro c hR, fun hm => h.pr.nr c hm hR⟩
  · intro k hk hm
    rcases hf1 k (by simp [hk]) with h1 | h1
    · exact hiv k hm h1
    · have := (h.inp.lt k hm).2
      omega
  · intro k hk hR
    rcases mem_fpV.1 hk with h1 | h1 | h1 | h1 | h1 | h1
    · exact h.nr k (mem_fpV.2 (.inl h1)) hR
    · exact h.nr k (mem_fpV.2 (.inr (.inl h1))) hR
    · exact h.nr k (mem_fpV.2 (.inr (.inr (.inl h1)))) hR
    · exact h.nr k (mem_fpV.2 (.inr (.inr (.inr (.inl h1))))) hR
    · exact hp1.nr k h1 hR
    · exact h.nr k (mem_fpV.2 (.inr (.inr (.inr (.inr (.inr h1)))))) hR
  · exact hk1.mono fun k hk => .inl (mem_fpV.2 (.inr (.inr (.inr (.inr (.inl hk))))))
  · intro k hk
    rcases mem_fpV.1 hk with h1 | h1 | h1 | h1 | h1 | h1
    · exact .inl (mem_fpV.2 (.inl h1))
    · exact .inl (mem_fpV.2 (.inr (.inl h1)))
    · exact .inl (mem_fpV.2 (.inr (.inr (.inl h1))))
    · exact .inl (mem_fpV.2 (.inr (.inr (.inr (.inl h1)))))
    · rcases hf1 k h1 with h2 | h2
      · exact .inl (mem_fpV.2 (.inr (.inr (.inr (.inr (.inl h2))))))
      · exact .inr h2
    · exact .inl (mem_fpV.2 (.inr (.inr (.inr (.inr (.inr h1))))))

theorem mprint_ret (h : Vm Y Z R B w x fp M) (ho : M.md.out ≤ 400000) (hl : M.pr.1.length ≤ 400000) (n : Int) : Ret Tryz.prog 117 [.pointer (some ⟨x, 0, none⟩), .int .i64 n] w fun r w' => r = .tuple #[] ∧ ∃ fp', Vm Y Z R B w' x fp' { M with md := { M.md with out := M.md.out + 1 }, pr := putP M.pr M.md.out n } ∧ Keep fp w w' ∧ ∀ k ∈ fp', k ∈ fp ∨ w.heap.size ≤ k := by
  refine ret_of 24 Tryz.func117 rfl rfl (by simp) ?_
  refine au ?_
  refine pl_val _ rfl rfl (val_load1 hT rfl rfl rfl (h.ptr)) ?_
  refine pl_op rfl rfl (opTo_call (fst := []) (cap := []) rfl rfl rfl rfl (by decide +kernel) ((h.load 3 (M.md.out : Nat) fun W hl e => loadW_at e.out (by decide)).mono ?_))
  rintro r w1 ⟨rfl, hww⟩
  rw [hww]
  refine au ?_
  refine pl_val _ rfl rfl (val_load1 hT rfl rfl rfl (h.prt)) ?_
  refine au ?_
  refine pl_op rfl rfl (opTo_call (fst := []) (cap := []) rfl rfl rfl rfl (by decide +kernel) ((h.print hl (M.md.out : Nat) n).mono ?_))
  rintro r w2 ⟨rfl, fp', h2, hk2, hf2⟩
  rw [show putI M.o.pr ((M.md.out : Nat) : Int) n = putP M.pr M.md.out n from putI_nat _ _ _] at h2
  refine au ?_
  refine pl_val _ rfl rfl (val_load1 hT rfl rfl rfl (h2.ptr)) ?_
  refine au ?_
  refine pl_num (((M.md.out + 1 : Nat) : Int)) rfl rfl rfl rfl rfl (by simp only [ariP]; omega) ?_
  refine pl_op rfl rfl (opTo_call (fst := []) (cap := []) rfl rfl rfl rfl (by decide +kernel) ((h2.put (E' := fun W => Ena Z W { M.md with out := M.md.out + 1 }) 3 ((M.md.out + 1 : Nat) : Int) fun W hl e => by
    rw [show (3 : Int) = ((3 : Nat) : Int) from rfl, putW_at W _ (by decide)]
    exact ena_out e hl rfl).mono ?_))
  rintro r w3 ⟨rfl, h3, hk3⟩
  refine au ?_
  refine rn_end Tryz.func117 (.inr (.inl ⟨rfl, rfl⟩)) ⟨rfl, fp', h3, hk2.trans hk3 fun k hk => .inl ?_, hf2⟩
  rw [List.mem_singleton.1 hk]
  exact h.mIn

theorem mread_ret (h : Vm Y Z R B w x fp M) (hr : M.md.read ≤ 1000000) (hc : M.md.cells.length ≤ 48) {a : Nat} (ha : a < M.md.cells.length) : Ret Tryz.prog 118 [.pointer (some ⟨x, 0, none⟩), .int .i64 (a : Nat)] w fun r w' => r = .tuple #[] ∧ Keep [M.m] w w' ∧
      Vm Y Z R B w' x fp { M with md := if M.md.read < M.inp.length then { M.md with cells := M.md.cells.set a (M.inp.getD M.md.read 0), read := M.md.read + 1 } else { M.md with state := 14 } } := by
  obtain ⟨cv, iv, hbk, hcd, hin, hro⟩ := h.bk
  have hin' : RowL w B iv M.inp := hin
  obtain ⟨ia, icap, rfl⟩ := hin'.form
  refine ret_of 40 Tryz.func118 rfl rfl (by simp) ?_
  refine au ?_
  refine pl_val _ rfl rfl (val_load1 hT rfl rfl rfl (h.ptr)) ?_
  refine pl_op rfl rfl (opTo_call (fst := []) (cap := []) rfl rfl rfl rfl (by decide +kernel) ((h.load 2 (M.md.read : Nat) fun W hl e => loadW_at e.read (by decide)).mono ?_))
  rintro r w1 ⟨rfl, hww⟩
  rw [hww]
  refine au ?_
  refine nay ?_
  refine au ?_
  refine pl_val _ rfl rfl (val_load1 hT rfl rfl rfl (hbk.cell rfl)) ?_
  refine au ?_
  by_cases hlt : M.md.read < M.inp.length
  · rw [if_pos hlt]
    refine nay ?_
    refine au ?_
    refine pl_val _ rfl rfl (val_load1 hT rfl rfl rfl (hbk.cell rfl)) ?_
    refine au ?_
    obtain ⟨y, hy⟩ : ∃ y, y = M.inp.getD M.md.read 0 := ⟨_, rfl⟩
    have hyi : M.inp[M.md.read]? = some y := by
      rw [hy, List.getD_eq_getElem?_getD, List.getElem?_eq_getElem hlt]
      rfl
    rw [← hy]
    obtain ⟨g, cap', hv, hcl⟩ := hin'.at hyi
    cases hv
    refine pl_val _ rfl rfl (val_index M.md.read hT rfl rfl rfl rfl rfl hlt w) ?_
    refine pl_val _ rfl rfl (val_load1 hT rfl rfl rfl ((by rw [Nat.zero_add, Nat.mul_one]; exact hcl))) ?_
    refine pl_op rfl rfl (opTo_call (fst := []) (cap := []) rfl rfl rfl rfl (by decide +kernel) ((msetCell_ret h hc ha y).mono ?_))
    rintro r w2 ⟨rfl, h2, hk2⟩
    refine au ?_
    refine pl_val _ rfl rfl (val_load1 hT rfl rfl rfl (h2.ptr)) ?_
    refine au ?_
    refine pl_num (((M.md.read + 1 : Nat) : Int)) rfl rfl rfl rfl rfl (by simp only [ariP]; omega) ?_
    refine pl_op rfl rfl (opTo_call (fst := []) (cap := []) rfl rfl rfl rfl (by decide +kernel) ((h2.put (E' := fun W => Ena Z W { M.md with cells := M.md.cells.set a y, read := M.md.read + 1 }) 2 ((M.md.read + 1 : Nat) : Int) fun W hl e => by
      rw [show (2 : Int) = ((2 : Nat) : Int) from rfl, putW_at W _ (by decide)]
      exact ena_read e hl rfl).mono ?_))
    rintro r w3 ⟨rfl, h3, hk3⟩
    refine au ?_
    exact rn_end Tryz.func118 (.inr (.inl ⟨rfl, rfl⟩)) ⟨rfl, hk2.tr hk3, h3⟩
  · rw [if_neg hlt]
    refine ye ?_
    refine au ?_
    refine pl_op rfl rfl (opTo_call (fst := []) (cap := []) rfl rfl rfl rfl (by decide +kernel) ((mstop_ret h 12 (by decide)).mono ?_))
    rintro r w2 ⟨rfl, h2, hk2⟩
    refine au ?_
    exact rn_ret Tryz.func118 (.inr (.inl ⟨rfl, rfl⟩)) ⟨rfl, hk2, h2⟩
end
end E
end Go.Proofs.YtmplkogkphmmjafGreat

/- The landed machine: contracts of deeds, Sync of its memory; do, an instruction each. -/
namespace Go.Proofs.YtmplkogkphmmjafGreat
set_option maxRecDepth 20000
set_option maxHeartbeats 4000000
namespace E
open Go.Proofs

theorem Blk.inj {w : World} {b : Nat} {L L' : List Value} {e e' : TypeId} (h : Blk w b L e) (h' : Blk w b L' e') : L = L' := by
  have := h.symm.trans h'
  simp only [Option.some.injEq, Obj.cells.injEq] at this
  simpa using congrArg Array.toList this.1
theorem size_bo : sizeOk Tryz.prog 4 1 = true := by kernel_rfl
/-- What is left to know of a machine behind a commit that was left off. -/
def TVm (w : World) (x : Nat) (b : Bool) : Prop := ∃ L, Blk w x L tMa ∧ L[5]? = some (.bool b)
/-- It came to M', and touched nothing but its own. -/
def Dn (Y : Nat → List Int → Prop) (Z : List Int) (R : Nat → Prop) (B : Nat) (w w' : World) (x : Nat) (fp : List Nat) (M' : Mx) : Prop := ∃ fp', Vp Y Z R B w' x fp' M' ∧ Keep fp w w' ∧ ∀ k ∈ fp', k ∈ fp ∨ w.heap.size ≤ k

section
variable {Y : Nat → List Int → Prop} {Z : List Int} {R : Nat → Prop} {B : Nat} {w w0 w' : World} {x : Nat} {fp : List Nat} {M M' : Mx}
theorem Dn.ofP (h : Vp Y Z R B w' x fp M') (hm : M.m ∈ fp) (hk : Keep [M.m] w w') : Dn Y Z R B w w' x fp M' := ⟨fp, h, hk.mono fun k hk => .inl (by rw [List.mem_singleton.1 hk]; exact hm), fun _ hk => .inl hk⟩
theorem Dn.of (h : Vm Y Z R B w' x fp M') (hm : M.m ∈ fp) (hk : Keep [M.m] w w') : Dn Y Z R B w w' x fp M' := Dn.ofP h.b hm hk
theorem Dn.late (hk : Keep [] w0 w) (h : Dn Y Z R B w w' x fp M') : Dn Y Z R B w0 w' x fp M' := by
  obtain ⟨fp', h1, h2, h3⟩ := h
  exact ⟨fp', h1, hk.of0.tr h2, fun k hk' => (h3 k hk').imp id fun h => Nat.le_trans hk.size h⟩

theorem mdeeds_all (h : Vm Y Z R B w x fp M) (hl : M.left ≤ 0) : Ret Tryz.prog 121 [.pointer (some ⟨x, 0, none⟩)] w fun r w' => r = .int .i64 (-1) ∧ w' = w := by
  obtain ⟨cv, iv, hbk, hcd, hin, hro⟩ := h.bk
  have hl : M.o.left ≤ 0 := hl
  refine ret_of 21 Tryz.func121 rfl rfl (by simp) ?_
  refine au ?_
  refine pl_val _ rfl rfl (val_load1 hT rfl rfl rfl (hbk.cell rfl)) ?_
  refine ye ?_
  refine au ?_
  exact rn_ret Tryz.func121 (.inl ⟨_, rfl, rfl⟩) ⟨rfl, rfl⟩

theorem mdeeds_some {cv iv : Value} {m q s : Nat} {left : Int} {torn : Bool} {W : List Int} {D : List Bool} (hbk : Blk w x (maC m cv iv q left torn) tMa) (hm : MemV w m s W D) (h0 : 0 < left) (h1 : left < 9223372036854775808) :
    Ret Tryz.prog 121 [.pointer (some ⟨x, 0, none⟩)] w fun r w' => (∃ may, r = .int .i64 may ∧ doneB (dirtyPs W D) may = false ∧ deedsN (dirtyPs W D) may = (((dirtyPs W D).length : Int) + 5 - left).toNat) ∧ Keep [] w w' := by
  have hlen : (dirtyPs W D).length ≤ 14 := dirtyTo_len W D 14
  refine ret_of 21 Tryz.func121 rfl rfl (by simp) ?_
  refine au ?_
  refine pl_val _ rfl rfl (val_load1 hT rfl rfl rfl (hbk.cell rfl)) ?_
  refine nay ?_
  refine au ?_
  refine rn_draw (fun w' => Keep [] w w') [] hMix ?_
  have hS : Keep [] w w.drew := (Keep.refl _ _).drew
  generalize w.drew = w1 at *
  refine tk 0 ?_
  refine tk 1 ?_
  refine tk 2 ?_
  refine dr_val 3 (.pointer (some ⟨m, 0, none⟩)) rfl (by decide +kernel) rfl rfl (fun w9 hS9 => val_load1 hT rfl rfl rfl ((hS9.blk hbk (by simp)).cell rfl)) hS ?_
  refine tk 7 ?_
  refine tk 8 ?_
  refine tk 9 ?_
  refine dr_val 10 (.int .i64 left) rfl (by decide +kernel) rfl rfl (fun w9 hS9 => val_load1 hT rfl rfl rfl ((hS9.blk hbk (by simp)).cell rfl)) hS ?_
  refine dr_op 4 rfl (by decide +kernel) rfl rfl (opTo_call (fst := []) (cap := []) rfl rfl rfl rfl (by decide +kernel) ((dirty_ret (hm.keep hS (by simp))).mono ?_))
  rintro r w2 ⟨hp2, hk2⟩
  obtain ⟨pa, pcap, rfl⟩ := hp2.form
  refine ⟨fun _ => hS.tr hk2, ?_⟩
  refine tk 5 ?_
  refine dr_num 6 ((((dirtyPs W D).length + 5 : Nat) : Int)) rfl (by decide +kernel) rfl rfl rfl rfl rfl (by simp only [ariP]; omega) ?_
  refine dr_num 11 ((((dirtyPs W D).length : Int) + 5 - left)) rfl (by decide +kernel) rfl rfl rfl rfl rfl (by simp only [ariP]; omega) ?_
  refine dr_any 12 _ rfl (by decide +kernel) rfl rfl (fun w => mval_max _ rfl rfl rfl rfl w) ?_
  refine tk 13 ?_
  refine dr_done (by decide +kernel) ?_
  refine au ?_
  refine rn_ret Tryz.func121 (.inl ⟨_, rfl, rfl⟩) ⟨⟨_, rfl, ?_, ?_⟩, hS.tr hk2⟩
  · unfold doneB
    rw [decide_eq_false_iff_not]
    split <;> omega
  · unfold deedsN
    rw [if_neg (by split <;> omega)]
    split <;> omega

/-- Its memory is made sure of, by all deeds. -/
theorem Vx.sync {O : Mo} {E : List Int → Prop} {Y' : Nat → List Int → Prop} (h : Vx Y R B w x fp O E) (hg : O.gen < 1000000) (hY : ∀ d S S2 W, Y d S → E W → W.length = 112 → allS S2 = W → Y' d S2) : Ret Tryz.prog 120 [.pointer (some ⟨O.m, 0, none⟩), .int .i64 (-1)] w fun r w' => r = .bool true ∧ ∃ fp', Vx Y' R B w' x fp' { O with gen := O.gen + 1 } E ∧ Keep fp w w' ∧ ∀ k ∈ fp', k ∈ fp ∨ w.heap.size ≤ k := by
  obtain ⟨d, s, S, W, D, wv, cv, iv, pv, rfl, h, e⟩ := h
  have hmay : doneB (dirtyPs W D) (-1) = true := doneB_neg _
  refine (sync_ret h.st.mem h.st.sto h.st.dsk (by rw [h.gen]; exact hg) (-1)).mono ?_
  rintro v w1 ⟨rfl, hm1, hs1, hk1, wv1, hd1, hf1⟩
  rw [hmay] at hm1
  obtain ⟨⟨S2, hS2, hN⟩, _⟩ := commit_view h.st.good (chk_dirty W D) (dirtyTo_wf h.st.mem.wl D (by decide))
  have hn : deedsN (dirtyPs W D) (-1) = (dirtyPs W D).length + 5 := by
    unfold deedsN
    rw [if_pos (.inl (by decide))]
  rw [hn] at hd1
  rw [hS2] at hd1
  have hall := hN.all h.st.tied
  have ne : ∀ {b : Nat} {L : List Value} {t : TypeId}, Blk w b L t → t ≠ 149 → (t == 113 || t == 184) = false → b ∉ O.m :: fpD d wv := fun {b L t} hb h1 h2 hm => by
    rcases List.mem_cons.1 hm with h3 | h3
    · exact Blk.ne hb h.st.mem.blk h1 h3
    · exact not_fp h.st.dsk hb h2 h3
  have nel : ∀ {v : Value} {l : List Int}, RowL w B v l → ∀ k ∈ obs v, k ∉ O.m :: fpD d wv := fun {v l} hv k hk => by
    obtain ⟨L, hL⟩ := hv.blk k hk
    exact ne hL (by decide) (by decide)
  have hR : ∀ c, R c → c < w.heap.size ∧ c ∉ O.m :: fpD d wv := fun c hR => ⟨h.pr.ro c hR, fun hm => by
    rcases List.mem_cons.1 hm with h3 | h3
    · exact h.nr c (mem_fpV.2 (.inr (.inl h3))) hR
    · exact h.nr c (mem_fpV.2 (.inr (.inr (.inr (.inl h3))))) hR⟩
  refine ⟨by rw [hmay], _, ⟨d, s, S2, W, _, wv1, cv, iv, pv, rfl, ⟨⟨hm1, hs1, hd1, hN.good, tied_all _ hall, h.st.hm⟩, h.hs, by rw [hN.gen, h.gen], h.pr.keep hk1 ?_, hk1.blk h.blk (ne h.blk (by decide) (by decide)), h.code.keep hk1 hR, h.inp.keep hk1 (nel h.inp), h.hx, h.apt, ?_⟩, e.1, hY d S S2 W e.2 e.1 h.st.mem.wl (allS_eq h.st.mem.wl hall)⟩, ?_, ?_⟩
  · intro k hm hq
    rcases List.mem_cons.1 hq with rfl | hq
    · exact ne h.pr.blk (by decide) (by decide) hm
    · exact nel h.pr.row k hq hm
  · intro k hk hRk
    have hlt := h.pr.ro k hRk
    rcases mem_fpV.1 hk with h1 | h1 | h1 | h1 | h1 | h1
    · exact h.nr k (mem_fpV.2 (.inl h1)) hRk
    · exact h.nr k (mem_fpV.2 (.inr (.inl h1))) hRk
    · exact h.nr k (mem_fpV.2 (.inr (.inr (.inl h1)))) hRk
    · rcases hf1 k h1 with h2 | h2
      · exact h.nr k (mem_fpV.2 (.inr (.inr (.inr (.inl h2))))) hRk
      · omega
    · exact h.nr k (mem_fpV.2 (.inr (.inr (.inr (.inr (.inl h1)))))) hRk
    · exact h.nr k (mem_fpV.2 (.inr (.inr (.inr (.inr (.inr h1)))))) hRk
  · refine hk1.mono fun k hk => .inl ?_
    rcases List.mem_cons.1 hk with h3 | h3
    · exact mem_fpV.2 (.inr (.inl h3))
    · exact mem_fpV.2 (.inr (.inr (.inr (.inl h3))))
  · intro k hk
    rcases mem_fpV.1 hk with h1 | h1 | h1 | h1 | h1 | h1
    · exact .inl (mem_fpV.2 (.inl h1))
    · exact .inl (mem_fpV.2 (.inr (.inl h1)))
    · exact .inl (mem_fpV.2 (.inr (.inr (.inl h1))))
    · rcases hf1 k h1 with h2 | h2
      · exact .inl (mem_fpV.2 (.inr (.inr (.inr (.inl h2)))))
      · exact .inr h2
    · exact .inl (mem_fpV.2 (.inr (.inr (.inr (.inr (.inl h1))))))
    · exact .inl (mem_fpV.2 (.inr (.inr (.inr (.inr (.inr h1))))))
/-- Its own block is written: how many deeds are left out, whether the last commit was not done. -/
theorem Vx.own {O : Mo} {E : List Int → Prop} {left : Int} {torn : Bool} (h : Vx Y R B w x fp O E) (hk : Keep [x] w w') (hb : ∀ {cv iv : Value}, Blk w x (maC O.m cv iv O.q O.left O.torn) tMa → Blk w' x (maC O.m cv iv O.q left torn) tMa) : Vx Y R B w' x fp { O with left := left, torn := torn } E := by
  obtain ⟨d, s, S, W, D, wv, cv, iv, pv, rfl, h, e⟩ := h
  have ne : ∀ {b : Nat} {L : List Value} {t : TypeId}, Blk w b L t → t ≠ tMa → b ∉ [x] := fun {b L t} hb h1 hm => Blk.ne hb h.blk h1 (List.mem_singleton.1 hm)
  have nel : ∀ {v : Value} {l : List Int}, RowL w B v l → ∀ k ∈ obs v, k ∉ [x] := fun {v l} hv => hv.ne h.blk neML
  refine ⟨d, s, S, W, D, wv, cv, iv, pv, rfl, ⟨⟨h.st.mem.keep hk (ne h.st.mem.blk (by decide)), hk.blk h.st.sto (ne h.st.sto (by decide)), h.st.dsk.keep hk fun k hm hx => ?_, h.st.good, h.st.tied, h.st.hm⟩, h.hs, h.gen, h.pr.keep hk fun k hm hq => ?_, hb h.blk, h.code.keep hk fun c hR => ⟨h.pr.ro c hR, fun hm => ?_⟩, h.inp.keep hk (nel h.inp), h.hx, h.apt, h.nr⟩, e⟩
  · rw [List.mem_singleton.1 hx] at hm
    exact not_fp h.st.dsk h.blk (by decide) hm
  · rcases List.mem_cons.1 hq with rfl | hq
    · exact ne h.pr.blk neMP.symm hm
    · exact nel h.pr.row k hq hm
  · rw [List.mem_singleton.1 hm] at hR
    exact h.nr _ (mem_fpV.2 (.inl rfl)) hR
end
end E
end Go.Proofs.YtmplkogkphmmjafGreat

/- The landed machine: do, an instruction each. -/
namespace Go.Proofs.YtmplkogkphmmjafGreat
set_option maxRecDepth 20000
set_option maxHeartbeats 4000000
namespace E
open Go.Proofs

/-- What is left behind a commit that was left off: the disk, as it waits for a crash; the printer. -/
def TnD (Y : Nat → List Int → Prop) (E : List Int → Prop) (R : Nat → Prop) (B : Nat) (w w' : World) (fp : List Nat) (O : Mo) : Prop :=
  ∃ d S W D wv pv, E W ∧ Y d S ∧ W.length = 112 ∧ Good S ∧ Tied S W D ∧ genS S = O.gen ∧
    DiskV B w' d (doDeeds ((deedsOf S (dirtyPs W D)).take (((dirtyPs W D).length : Int) + 5 - O.left).toNat) (S, [])).1 (doDeeds ((deedsOf S (dirtyPs W D)).take (((dirtyPs W D).length : Int) + 5 - O.left).toNat) (S, [])).2 wv ∧
    Pv R B w' O.q pv O.pr ∧ (∀ k ∈ fpD d wv, k ∈ fp ∨ w.heap.size ≤ k) ∧ ∀ k ∈ O.q :: obs pv, k ∈ fp
/-- So a machine stands when its next instruction was counted. -/
abbrev Mx.at (M : Mx) (a : Md) : Mx := { M with md := { a with next := a.next + 1 } }
section
variable {Y : Nat → List Int → Prop} {Z : List Int} {R : Nat → Prop} {B : Nat} {w : World} {x : Nat} {fp : List Nat} {M : Mx} {a : Md} {A K N : Int}
theorem mdo_num (h : Vm Y Z R B w x fp (M.at a)) (hs : a.stack.length ≤ 24) (hc : a.cells.length ≤ 48) :
    Ret Tryz.prog 87 [.pointer (some ⟨x, 0, none⟩), .agg (iC (1, A, K, N)).toArray] w fun r w' => r = .tuple #[] ∧ Dn Y Z R B w w' x fp { M with md := { a with next := a.next + 1, stack := a.stack ++ [N] } } := by
  refine ret_of 104 Tryz.func87 rfl rfl (by simp) ?_
  refine au ?_
  refine pl_op rfl rfl (opTo_boxN (iC (1, A, K, N)) rfl rfl rfl ?_)
  intro w1 x1 hx1 hs1 hk1 hb1
  have hml := (h.lt _ h.mIn).2.1
  have hmx : x1 ∉ [M.m] := by
    intro hm
    have hm : x1 = (M.at a).o.m := List.mem_singleton.1 hm
    omega
  have h1 := Vx.keep0 h hk1
  refine au ?_
  refine pl_val _ rfl rfl (val_load1 hT rfl rfl rfl (hb1.cell rfl)) ?_
  refine aub ?_
  refine pl_op rfl rfl (opTo_call (fst := []) (cap := []) rfl rfl rfl rfl (by decide +kernel) ((mpush_ret h1 (by show a.stack.length ≤ 58; omega) hc N).mono ?_))
  rintro r w2 ⟨rfl, h2, hk2⟩
  refine au ?_
  exact rn_end Tryz.func87 (.inr (.inl ⟨rfl, rfl⟩)) ⟨rfl, Dn.late hk1 (Dn.ofP (M := M) h2 h.mIn hk2)⟩

theorem mdo_var (h : Vm Y Z R B w x fp (M.at a)) (hs : a.stack.length ≤ 24) (hc : a.cells.length ≤ 48) (h0 : 0 ≤ A) (hA : A < (a.cells.length : Int)) :
    Ret Tryz.prog 87 [.pointer (some ⟨x, 0, none⟩), .agg (iC (2, A, K, N)).toArray] w fun r w' => r = .tuple #[] ∧ Dn Y Z R B w w' x fp { M with md := { a with next := a.next + 1, stack := a.stack ++ [cellAt a.cells A] } } := by
  refine ret_of 104 Tryz.func87 rfl rfl (by simp) ?_
  refine au ?_
  refine pl_op rfl rfl (opTo_boxN (iC (2, A, K, N)) rfl rfl rfl ?_)
  intro w1 x1 hx1 hs1 hk1 hb1
  have hml := (h.lt _ h.mIn).2.1
  have hmx : x1 ∉ [M.m] := by
    intro hm
    have hm : x1 = (M.at a).o.m := List.mem_singleton.1 hm
    omega
  have h1 := Vx.keep0 h hk1
  refine au ?_
  refine pl_val _ rfl rfl (val_load1 hT rfl rfl rfl (hb1.cell rfl)) ?_
  obtain ⟨k, rfl⟩ : ∃ k : Nat, A = (k : Nat) := ⟨A.toNat, by omega⟩
  refine aub ?_
  refine pl_op rfl rfl (opTo_call (fst := []) (cap := []) rfl rfl rfl rfl (by decide +kernel) ((mcell_at h1 hc (a := k) (by show k < a.cells.length; omega)).mono ?_))
  rintro r w1' ⟨rfl, hww⟩
  rw [hww]
  refine pl_op rfl rfl (opTo_call (fst := []) (cap := []) rfl rfl rfl rfl (by decide +kernel) ((mpush_ret h1 (by show a.stack.length ≤ 58; omega) hc _).mono ?_))
  rintro r w2 ⟨rfl, h2, hk2⟩
  refine au ?_
  exact rn_end Tryz.func87 (.inr (.inl ⟨rfl, rfl⟩)) ⟨rfl, Dn.late hk1 (Dn.ofP (M := M) h2 h.mIn hk2)⟩

theorem mdo_get (h : Vm Y Z R B w x fp (M.at a)) (h1s : 1 ≤ a.stack.length) (hs : a.stack.length ≤ 24) (hc : a.cells.length ≤ 48) (h0 : 0 ≤ A) (hA : A + K ≤ (a.cells.length : Int)) :
    Ret Tryz.prog 87 [.pointer (some ⟨x, 0, none⟩), .agg (iC (3, A, K, N)).toArray] w fun r w' => r = .tuple #[] ∧ Dn Y Z R B w w' x fp { M with md := if 0 ≤ topS a.stack ∧ topS a.stack < K then { a with next := a.next + 1, stack := a.stack.dropLast ++ [cellAt a.cells (A + topS a.stack)] } else { a with next := a.next + 1, stack := a.stack.dropLast, state := 13 } } := by
  refine ret_of 104 Tryz.func87 rfl rfl (by simp) ?_
  refine au ?_
  refine pl_op rfl rfl (opTo_boxN (iC (3, A, K, N)) rfl rfl rfl ?_)
  intro w1 x1 hx1 hs1 hk1 hb1
  have hml := (h.lt _ h.mIn).2.1
  have hmx : x1 ∉ [M.m] := by
    intro hm
    have hm : x1 = (M.at a).o.m := List.mem_singleton.1 hm
    omega
  have h1 := Vx.keep0 h hk1
  refine au ?_
  refine pl_val _ rfl rfl (val_load1 hT rfl rfl rfl (hb1.cell rfl)) ?_
  refine aub ?_
  refine pl_val (.agg (iC (3, A, K, N)).toArray) rfl rfl (val_load (iC (3, A, K, N)) hT rfl rfl rfl (hb1.range (by rfl))) ?_
  refine pl_op rfl rfl (opTo_call (fst := []) (cap := []) rfl rfl rfl rfl (by decide +kernel) ((mgetCell_ret h1 (3, A, K, N) h1s hs hc h0 hA).mono ?_))
  rintro r w2 ⟨rfl, hk2, h2⟩
  refine au ?_
  exact rn_end Tryz.func87 (.inr (.inl ⟨rfl, rfl⟩)) ⟨rfl, Dn.late hk1 (Dn.ofP (M := M) h2 h.mIn hk2)⟩

theorem mdo_add (h : Vm Y Z R B w x fp (M.at a)) (h2s : 2 ≤ a.stack.length) (hs : a.stack.length ≤ 24) (hc : a.cells.length ≤ 48) :
    Ret Tryz.prog 87 [.pointer (some ⟨x, 0, none⟩), .agg (iC (4, A, K, N)).toArray] w fun r w' => r = .tuple #[] ∧ Dn Y Z R B w w' x fp { M with md := { a with next := a.next + 1, stack := a.stack.dropLast.dropLast ++ [ariI 4 (topS a.stack.dropLast) (topS a.stack)] } } := by
  refine ret_of 104 Tryz.func87 rfl rfl (by simp) ?_
  refine au ?_
  refine pl_op rfl rfl (opTo_boxN (iC (4, A, K, N)) rfl rfl rfl ?_)
  intro w1 x1 hx1 hs1 hk1 hb1
  have hml := (h.lt _ h.mIn).2.1
  have hmx : x1 ∉ [M.m] := by
    intro hm
    have hm : x1 = (M.at a).o.m := List.mem_singleton.1 hm
    omega
  have h1 := Vx.keep0 h hk1
  refine au ?_
  refine pl_val _ rfl rfl (val_load1 hT rfl rfl rfl (hb1.cell rfl)) ?_
  refine aub ?_
  refine pl_op rfl rfl (opTo_call (fst := []) (cap := []) rfl rfl rfl rfl (by decide +kernel) ((mpop_ret h1 (by show 1 ≤ a.stack.length; omega) (by show a.stack.length ≤ 59; omega)).mono ?_))
  rintro r w2 ⟨rfl, h2, hk2⟩
  refine au ?_
  refine pl_op rfl rfl (opTo_call (fst := []) (cap := []) rfl rfl rfl rfl (by decide +kernel) ((mpop_ret h2 (by show 1 ≤ a.stack.dropLast.length; rw [List.length_dropLast]; omega) (by show a.stack.dropLast.length ≤ 59; rw [List.length_dropLast]; omega)).mono ?_))
  rintro r w3 ⟨rfl, h3, hk3⟩
  have hk13 : Keep [M.m] w1 w3 := hk2.tr hk3
  have hb3 := hk13.blk hb1 hmx
  clear hb1
  refine au ?_
  refine pl_val _ rfl rfl (val_load1 hT rfl rfl rfl (hb3.cell rfl)) ?_
  refine au ?_
  refine pl_op rfl rfl (opTo_call (fst := []) (cap := []) rfl rfl rfl rfl (by decide +kernel) ((mreckon_ret 4 (topS a.stack.dropLast) (topS a.stack) (by decide) w3).mono ?_))
  rintro r w3' ⟨rfl, hww⟩
  rw [hww]
  refine pl_op rfl rfl (opTo_call (fst := []) (cap := []) rfl rfl rfl rfl (by decide +kernel) ((mpush_ret h3 (by show a.stack.dropLast.dropLast.length ≤ 58; simp only [List.length_dropLast]; omega) hc _).mono ?_))
  rintro r w4 ⟨rfl, h4, hk4⟩
  refine au ?_
  exact rn_end Tryz.func87 (.inr (.inl ⟨rfl, rfl⟩)) ⟨rfl, Dn.late hk1 (Dn.ofP (M := M) h4 h.mIn (hk13.tr hk4))⟩

theorem mdo_sub (h : Vm Y Z R B w x fp (M.at a)) (h2s : 2 ≤ a.stack.length) (hs : a.stack.length ≤ 24) (hc : a.cells.length ≤ 48) :
    Ret Tryz.prog 87 [.pointer (some ⟨x, 0, none⟩), .agg (iC (5, A, K, N)).toArray] w fun r w' => r = .tuple #[] ∧ Dn Y Z R B w w' x fp { M with md := { a with next := a.next + 1, stack := a.stack.dropLast.dropLast ++ [ariI 5 (topS a.stack.dropLast) (topS a.stack)] } } := by
  refine ret_of 104 Tryz.func87 rfl rfl (by simp) ?_
  refine au ?_
  refine pl_op rfl rfl (opTo_boxN (iC (5, A, K, N)) rfl rfl rfl ?_)
  intro w1 x1 hx1 hs1 hk1 hb1
  have hml := (h.lt _ h.mIn).2.1
  have hmx : x1 ∉ [M.m] := by
    intro hm
    have hm : x1 = (M.at a).o.m := List.mem_singleton.1 hm
    omega
  have h1 := Vx.keep0 h hk1
  refine au ?_
  refine pl_val _ rfl rfl (val_load1 hT rfl rfl rfl (hb1.cell rfl)) ?_
  refine aub ?_
  refine pl_op rfl rfl (opTo_call (fst := []) (cap := []) rfl rfl rfl rfl (by decide +kernel) ((mpop_ret h1 (by show 1 ≤ a.stack.length; omega) (by show a.stack.length ≤ 59; omega)).mono ?_))
  rintro r w2 ⟨rfl, h2, hk2⟩
  refine au ?_
  refine pl_op rfl rfl (opTo_call (fst := []) (cap := []) rfl rfl rfl rfl (by decide +kernel) ((mpop_ret h2 (by show 1 ≤ a.stack.dropLast.length; rw [List.length_dropLast]; omega) (by show a.stack.dropLast.length ≤ 59; rw [List.length_dropLast]; omega)).mono ?_))
  rintro r w3 ⟨rfl, h3, hk3⟩
  have hk13 : Keep [M.m] w1 w3 := hk2.tr hk3
  have hb3 := hk13.blk hb1 hmx
  clear hb1
  refine au ?_
  refine pl_val _ rfl rfl (val_load1 hT rfl rfl rfl (hb3.cell rfl)) ?_
  refine au ?_
  refine pl_op rfl rfl (opTo_call (fst := []) (cap := []) rfl rfl rfl rfl (by decide +kernel) ((mreckon_ret 5 (topS a.stack.dropLast) (topS a.stack) (by decide) w3).mono ?_))
  rintro r w3' ⟨rfl, hww⟩
  rw [hww]
  refine pl_op rfl rfl (opTo_call (fst := []) (cap := []) rfl rfl rfl rfl (by decide +kernel) ((mpush_ret h3 (by show a.stack.dropLast.dropLast.length ≤ 58; simp only [List.length_dropLast]; omega) hc _).mono ?_))
  rintro r w4 ⟨rfl, h4, hk4⟩
  refine au ?_
  exact rn_end Tryz.func87 (.inr (.inl ⟨rfl, rfl⟩)) ⟨rfl, Dn.late hk1 (Dn.ofP (M := M) h4 h.mIn (hk13.tr hk4))⟩

theorem mdo_mul (h : Vm Y Z R B w x fp (M.at a)) (h2s : 2 ≤ a.stack.length) (hs : a.stack.length ≤ 24) (hc : a.cells.length ≤ 48) :
    Ret Tryz.prog 87 [.pointer (some ⟨x, 0, none⟩), .agg (iC (6, A, K, N)).toArray] w fun r w' => r = .tuple #[] ∧ Dn Y Z R B w w' x fp { M with md := { a with next := a.next + 1, stack := a.stack.dropLast.dropLast ++ [ariI 6 (topS a.stack.dropLast) (topS a.stack)] } } := by
  refine ret_of 104 Tryz.func87 rfl rfl (by simp) ?_
  refine au ?_
  refine pl_op rfl rfl (opTo_boxN (iC (6, A, K, N)) rfl rfl rfl ?_)
  intro w1 x1 hx1 hs1 hk1 hb1
  have hml := (h.lt _ h.mIn).2.1
  have hmx : x1 ∉ [M.m] := by
    intro hm
    have hm : x1 = (M.at a).o.m := List.mem_singleton.1 hm
    omega
  have h1 := Vx.keep0 h hk1
  refine au ?_
  refine pl_val _ rfl rfl (val_load1 hT rfl rfl rfl (hb1.cell rfl)) ?_
  refine aub ?_
  refine pl_op rfl rfl (opTo_call (fst := []) (cap := []) rfl rfl rfl rfl (by decide +kernel) ((mpop_ret h1 (by show 1 ≤ a.stack.length; omega) (by show a.stack.length ≤ 59; omega)).mono ?_))
  rintro r w2 ⟨rfl, h2, hk2⟩
  refine au ?_
  refine pl_op rfl rfl (opTo_call (fst := []) (cap := []) rfl rfl rfl rfl (by decide +kernel) ((mpop_ret h2 (by show 1 ≤ a.stack.dropLast.length; rw [List.length_dropLast]; omega) (by show a.stack.dropLast.length ≤ 59; rw [List.length_dropLast]; omega)).mono ?_))
  rintro r w3 ⟨rfl, h3, hk3⟩
  have hk13 : Keep [M.m] w1 w3 := hk2.tr hk3
  have hb3 := hk13.blk hb1 hmx
  clear hb1
  refine au ?_
  refine pl_val _ rfl rfl (val_load1 hT rfl rfl rfl (hb3.cell rfl)) ?_
  refine au ?_
  refine pl_op rfl rfl (opTo_call (fst := []) (cap := []) rfl rfl rfl rfl (by decide +kernel) ((mreckon_ret 6 (topS a.stack.dropLast) (topS a.stack) (by decide) w3).mono ?_))
  rintro r w3' ⟨rfl, hww⟩
  rw [hww]
  refine pl_op rfl rfl (opTo_call (fst := []) (cap := []) rfl rfl rfl rfl (by decide +kernel) ((mpush_ret h3 (by show a.stack.dropLast.dropLast.length ≤ 58; simp only [List.length_dropLast]; omega) hc _).mono ?_))
  rintro r w4 ⟨rfl, h4, hk4⟩
  refine au ?_
  exact rn_end Tryz.func87 (.inr (.inl ⟨rfl, rfl⟩)) ⟨rfl, Dn.late hk1 (Dn.ofP (M := M) h4 h.mIn (hk13.tr hk4))⟩

theorem mdo_less (h : Vm Y Z R B w x fp (M.at a)) (h2s : 2 ≤ a.stack.length) (hs : a.stack.length ≤ 24) (hc : a.cells.length ≤ 48) :
    Ret Tryz.prog 87 [.pointer (some ⟨x, 0, none⟩), .agg (iC (7, A, K, N)).toArray] w fun r w' => r = .tuple #[] ∧ Dn Y Z R B w w' x fp { M with md := { a with next := a.next + 1, stack := a.stack.dropLast.dropLast ++ [ariI 7 (topS a.stack.dropLast) (topS a.stack)] } } := by
  refine ret_of 104 Tryz.func87 rfl rfl (by simp) ?_
  refine au ?_
  refine pl_op rfl rfl (opTo_boxN (iC (7, A, K, N)) rfl rfl rfl ?_)
  intro w1 x1 hx1 hs1 hk1 hb1
  have hml := (h.lt _ h.mIn).2.1
  have hmx : x1 ∉ [M.m] := by
    intro hm
    have hm : x1 = (M.at a).o.m := List.mem_singleton.1 hm
    omega
  have h1 := Vx.keep0 h hk1
  refine au ?_
  refine pl_val _ rfl rfl (val_load1 hT rfl rfl rfl (hb1.cell rfl)) ?_
  refine aub ?_
  refine pl_op rfl rfl (opTo_call (fst := []) (cap := []) rfl rfl rfl rfl (by decide +kernel) ((mpop_ret h1 (by show 1 ≤ a.stack.length; omega) (by show a.stack.length ≤ 59; omega)).mono ?_))
  rintro r w2 ⟨rfl, h2, hk2⟩
  refine au ?_
  refine pl_op rfl rfl (opTo_call (fst := []) (cap := []) rfl rfl rfl rfl (by decide +kernel) ((mpop_ret h2 (by show 1 ≤ a.stack.dropLast.length; rw [List.length_dropLast]; omega) (by show a.stack.dropLast.length ≤ 59; rw [List.length_dropLast]; omega)).mono ?_))
  rintro r w3 ⟨rfl, h3, hk3⟩
  have hk13 : Keep [M.m] w1 w3 := hk2.tr hk3
  have hb3 := hk13.blk hb1 hmx
  clear hb1
  refine au ?_
  refine pl_val _ rfl rfl (val_load1 hT rfl rfl rfl (hb3.cell rfl)) ?_
  refine au ?_
  refine pl_op rfl rfl (opTo_call (fst := []) (cap := []) rfl rfl rfl rfl (by decide +kernel) ((mreckon_ret 7 (topS a.stack.dropLast) (topS a.stack) (by decide) w3).mono ?_))
  rintro r w3' ⟨rfl, hww⟩
  rw [hww]
  refine pl_op rfl rfl (opTo_call (fst := []) (cap := []) rfl rfl rfl rfl (by decide +kernel) ((mpush_ret h3 (by show a.stack.dropLast.dropLast.length ≤ 58; simp only [List.length_dropLast]; omega) hc _).mono ?_))
  rintro r w4 ⟨rfl, h4, hk4⟩
  refine au ?_
  exact rn_end Tryz.func87 (.inr (.inl ⟨rfl, rfl⟩)) ⟨rfl, Dn.late hk1 (Dn.ofP (M := M) h4 h.mIn (hk13.tr hk4))⟩

theorem mdo_same (h : Vm Y Z R B w x fp (M.at a)) (h2s : 2 ≤ a.stack.length) (hs : a.stack.length ≤ 24) (hc : a.cells.length ≤ 48) :
    Ret Tryz.prog 87 [.pointer (some ⟨x, 0, none⟩), .agg (iC (8, A, K, N)).toArray] w fun r w' => r = .tuple #[] ∧ Dn Y Z R B w w' x fp { M with md := { a with next := a.next + 1, stack := a.stack.dropLast.dropLast ++ [ariI 8 (topS a.stack.dropLast) (topS a.stack)] } } := by
  refine ret_of 104 Tryz.func87 rfl rfl (by simp) ?_
  refine au ?_
  refine pl_op rfl rfl (opTo_boxN (iC (8, A, K, N)) rfl rfl rfl ?_)
  intro w1 x1 hx1 hs1 hk1 hb1
  have hml := (h.lt _ h.mIn).2.1
  have hmx : x1 ∉ [M.m] := by
    intro hm
    have hm : x1 = (M.at a).o.m := List.mem_singleton.1 hm
    omega
  have h1 := Vx.keep0 h hk1
  refine au ?_
  refine pl_val _ rfl rfl (val_load1 hT rfl rfl rfl (hb1.cell rfl)) ?_
  refine aub ?_
  refine pl_op rfl rfl (opTo_call (fst := []) (cap := []) rfl rfl rfl rfl (by decide +kernel) ((mpop_ret h1 (by show 1 ≤ a.stack.length; omega) (by show a.stack.length ≤ 59; omega)).mono ?_))
  rintro r w2 ⟨rfl, h2, hk2⟩
  refine au ?_
  refine pl_op rfl rfl (opTo_call (fst := []) (cap := []) rfl rfl rfl rfl (by decide +kernel) ((mpop_ret h2 (by show 1 ≤ a.stack.dropLast.length; rw [List.length_dropLast]; omega) (by show a.stack.dropLast.length ≤ 59; rw [List.length_dropLast]; omega)).mono ?_))
  rintro r w3 ⟨rfl, h3, hk3⟩
  have hk13 : Keep [M.m] w1 w3 := hk2.tr hk3
  have hb3 := hk13.blk hb1 hmx
  clear hb1
  refine au ?_
  refine pl_val _ rfl rfl (val_load1 hT rfl rfl rfl (hb3.cell rfl)) ?_
  refine au ?_
  refine pl_op rfl rfl (opTo_call (fst := []) (cap := []) rfl rfl rfl rfl (by decide +kernel) ((mreckon_ret 8 (topS a.stack.dropLast) (topS a.stack) (by decide) w3).mono ?_))
  rintro r w3' ⟨rfl, hww⟩
  rw [hww]
  refine pl_op rfl rfl (opTo_call (fst := []) (cap := []) rfl rfl rfl rfl (by decide +kernel) ((mpush_ret h3 (by show a.stack.dropLast.dropLast.length ≤ 58; simp only [List.length_dropLast]; omega) hc _).mono ?_))
  rintro r w4 ⟨rfl, h4, hk4⟩
  refine au ?_
  exact rn_end Tryz.func87 (.inr (.inl ⟨rfl, rfl⟩)) ⟨rfl, Dn.late hk1 (Dn.ofP (M := M) h4 h.mIn (hk13.tr hk4))⟩

theorem mdo_set (h : Vm Y Z R B w x fp (M.at a)) (h1s : 1 ≤ a.stack.length) (hs : a.stack.length ≤ 24) (hc : a.cells.length ≤ 48) (h0 : 0 ≤ A) (hA : A < (a.cells.length : Int)) :
    Ret Tryz.prog 87 [.pointer (some ⟨x, 0, none⟩), .agg (iC (9, A, K, N)).toArray] w fun r w' => r = .tuple #[] ∧ Dn Y Z R B w w' x fp { M with md := { a with next := a.next + 1, stack := a.stack.dropLast, cells := a.cells.set A.toNat (topS a.stack) } } := by
  refine ret_of 104 Tryz.func87 rfl rfl (by simp) ?_
  refine au ?_
  refine pl_op rfl rfl (opTo_boxN (iC (9, A, K, N)) rfl rfl rfl ?_)
  intro w1 x1 hx1 hs1 hk1 hb1
  have hml := (h.lt _ h.mIn).2.1
  have hmx : x1 ∉ [M.m] := by
    intro hm
    have hm : x1 = (M.at a).o.m := List.mem_singleton.1 hm
    omega
  have h1 := Vx.keep0 h hk1
  refine au ?_
  refine pl_val _ rfl rfl (val_load1 hT rfl rfl rfl (hb1.cell rfl)) ?_
  obtain ⟨k, rfl⟩ : ∃ k : Nat, A = (k : Nat) := ⟨A.toNat, by omega⟩
  refine aub ?_
  refine rn_draw (fun w' => Blk w' x1 (iC (9, ((k : Nat) : Int), K, N)) 107) [] hMix ?_
  have hS : Keep [] w1 w1.drew := (Keep.refl _ _).drew
  have h1 := Vx.keep0 h1 hS
  have hb2 := hS.blk hb1 (by simp)
  generalize w1.drew = w2 at *
  refine tk 0 ?_
  refine tk 1 ?_
  refine dr_val 2 (.int .i64 (k : Nat)) rfl (by decide +kernel) rfl rfl (fun w9 hS9 => val_load1 hT rfl rfl rfl (hS9.cell rfl)) hb2 ?_
  refine tk 3 ?_
  refine dr_op 4 rfl (by decide +kernel) rfl rfl (opTo_call (fst := []) (cap := []) rfl rfl rfl rfl (by decide +kernel) ((mpop_ret h1 h1s (by show a.stack.length ≤ 59; omega)).mono ?_))
  rintro r w3 ⟨rfl, h3, hk3⟩
  refine ⟨fun _ => hk3.blk hb2 hmx, ?_⟩
  refine dr_op 5 rfl (by decide +kernel) rfl rfl (opTo_call (fst := []) (cap := []) rfl rfl rfl rfl (by decide +kernel) ((msetCell_ret h3 hc (a := k) (by show k < a.cells.length; omega) (topS a.stack)).mono ?_))
  rintro r w4 ⟨rfl, h4, hk4⟩
  refine ⟨fun _ => hk4.blk (hk3.blk hb2 hmx) hmx, ?_⟩
  refine dr_done (by decide +kernel) ?_
  refine au ?_
  exact rn_end Tryz.func87 (.inr (.inl ⟨rfl, rfl⟩)) ⟨rfl, Dn.late (hk1.tr hS) (Dn.of (M := M) h4 h.mIn (hk3.tr hk4))⟩

theorem mdo_put (h : Vm Y Z R B w x fp (M.at a)) (h2s : 2 ≤ a.stack.length) (hs : a.stack.length ≤ 24) (hc : a.cells.length ≤ 48) (h0 : 0 ≤ A) (hA : A + K ≤ (a.cells.length : Int)) :
    Ret Tryz.prog 87 [.pointer (some ⟨x, 0, none⟩), .agg (iC (10, A, K, N)).toArray] w fun r w' => r = .tuple #[] ∧ Dn Y Z R B w w' x fp { M with md := if 0 ≤ topS a.stack.dropLast ∧ topS a.stack.dropLast < K then { a with next := a.next + 1, stack := a.stack.dropLast.dropLast, cells := a.cells.set (A + topS a.stack.dropLast).toNat (topS a.stack) } else { a with next := a.next + 1, stack := a.stack.dropLast.dropLast, state := 13 } } := by
  refine ret_of 104 Tryz.func87 rfl rfl (by simp) ?_
  refine au ?_
  refine pl_op rfl rfl (opTo_boxN (iC (10, A, K, N)) rfl rfl rfl ?_)
  intro w1 x1 hx1 hs1 hk1 hb1
  have hml := (h.lt _ h.mIn).2.1
  have hmx : x1 ∉ [M.m] := by
    intro hm
    have hm : x1 = (M.at a).o.m := List.mem_singleton.1 hm
    omega
  have h1 := Vx.keep0 h hk1
  refine au ?_
  refine pl_val _ rfl rfl (val_load1 hT rfl rfl rfl (hb1.cell rfl)) ?_
  refine aub ?_
  refine pl_val (.agg (iC (10, A, K, N)).toArray) rfl rfl (val_load (iC (10, A, K, N)) hT rfl rfl rfl (hb1.range (by rfl))) ?_
  refine pl_op rfl rfl (opTo_call (fst := []) (cap := []) rfl rfl rfl rfl (by decide +kernel) ((mputCell_ret h1 (10, A, K, N) h2s hs hc h0 hA).mono ?_))
  rintro r w2 ⟨rfl, hk2, h2⟩
  refine au ?_
  exact rn_end Tryz.func87 (.inr (.inl ⟨rfl, rfl⟩)) ⟨rfl, Dn.late hk1 (Dn.of (M := M) h2 h.mIn hk2)⟩

theorem mdo_print (h : Vm Y Z R B w x fp (M.at a)) (h1s : 1 ≤ a.stack.length) (hs : a.stack.length ≤ 24) (ho : a.out ≤ 400000) (hl : M.pr.1.length ≤ 400000) :
    Ret Tryz.prog 87 [.pointer (some ⟨x, 0, none⟩), .agg (iC (11, A, K, N)).toArray] w fun r w' => r = .tuple #[] ∧ Dn Y Z R B w w' x fp { M with md := { a with next := a.next + 1, stack := a.stack.dropLast, out := a.out + 1 }, pr := putP M.pr a.out (topS a.stack) } := by
  refine ret_of 104 Tryz.func87 rfl rfl (by simp) ?_
  refine au ?_
  refine pl_op rfl rfl (opTo_boxN (iC (11, A, K, N)) rfl rfl rfl ?_)
  intro w1 x1 hx1 hs1 hk1 hb1
  have hml := (h.lt _ h.mIn).2.1
  have hmx : x1 ∉ [M.m] := by
    intro hm
    have hm : x1 = (M.at a).o.m := List.mem_singleton.1 hm
    omega
  have h1 := Vx.keep0 h hk1
  refine au ?_
  refine pl_val _ rfl rfl (val_load1 hT rfl rfl rfl (hb1.cell rfl)) ?_
  refine aub ?_
  refine pl_op rfl rfl (opTo_call (fst := []) (cap := []) rfl rfl rfl rfl (by decide +kernel) ((mpop_ret h1 h1s (by show a.stack.length ≤ 59; omega)).mono ?_))
  rintro r w2 ⟨rfl, h2, hk2⟩
  refine pl_op rfl rfl (opTo_call (fst := []) (cap := []) rfl rfl rfl rfl (by decide +kernel) ((mprint_ret h2 ho hl (topS a.stack)).mono ?_))
  rintro r w3 ⟨rfl, fp', h3, hk3, hf3⟩
  refine au ?_
  refine rn_end Tryz.func87 (.inr (.inl ⟨rfl, rfl⟩)) ⟨rfl, Dn.late hk1 ⟨fp', Vm.b h3, (hk2.mono fun k hk => .inl ?_).tr hk3, fun k hk => (hf3 k hk).imp id fun h => Nat.le_trans hk2.size h⟩⟩
  rw [List.mem_singleton.1 hk]
  exact h.mIn

theorem mdo_read (h : Vm Y Z R B w x fp (M.at a)) (hr : a.read ≤ 1000000) (hc : a.cells.length ≤ 48) (h0 : 0 ≤ A) (hA : A < (a.cells.length : Int)) :
    Ret Tryz.prog 87 [.pointer (some ⟨x, 0, none⟩), .agg (iC (12, A, K, N)).toArray] w fun r w' => r = .tuple #[] ∧ Dn Y Z R B w w' x fp { M with md := if a.read < M.inp.length then { a with next := a.next + 1, cells := a.cells.set A.toNat (M.inp.getD a.read 0), read := a.read + 1 } else { a with next := a.next + 1, state := 14 } } := by
  refine ret_of 104 Tryz.func87 rfl rfl (by simp) ?_
  refine au ?_
  refine pl_op rfl rfl (opTo_boxN (iC (12, A, K, N)) rfl rfl rfl ?_)
  intro w1 x1 hx1 hs1 hk1 hb1
  have hml := (h.lt _ h.mIn).2.1
  have hmx : x1 ∉ [M.m] := by
    intro hm
    have hm : x1 = (M.at a).o.m := List.mem_singleton.1 hm
    omega
  have h1 := Vx.keep0 h hk1
  refine au ?_
  refine pl_val _ rfl rfl (val_load1 hT rfl rfl rfl (hb1.cell rfl)) ?_
  obtain ⟨k, rfl⟩ : ∃ k : Nat, A = (k : Nat) := ⟨A.toNat, by omega⟩
  refine aub ?_
  refine pl_op rfl rfl (opTo_call (fst := []) (cap := []) rfl rfl rfl rfl (by decide +kernel) ((mread_ret h1 hr hc (a := k) (by show k < a.cells.length; omega)).mono ?_))
  rintro r w2 ⟨rfl, hk2, h2⟩
  refine au ?_
  exact rn_end Tryz.func87 (.inr (.inl ⟨rfl, rfl⟩)) ⟨rfl, Dn.late hk1 (Dn.of (M := M) h2 h.mIn hk2)⟩

theorem mdo_else (h : Vm Y Z R B w x fp (M.at a)) (h1s : 1 ≤ a.stack.length) (hs : a.stack.length ≤ 24) (h0 : 0 ≤ A) :
    Ret Tryz.prog 87 [.pointer (some ⟨x, 0, none⟩), .agg (iC (13, A, K, N)).toArray] w fun r w' => r = .tuple #[] ∧ Dn Y Z R B w w' x fp { M with md := { a with next := if topS a.stack = 0 then A.toNat else a.next + 1, stack := a.stack.dropLast } } := by
  refine ret_of 104 Tryz.func87 rfl rfl (by simp) ?_
  refine au ?_
  refine pl_op rfl rfl (opTo_boxN (iC (13, A, K, N)) rfl rfl rfl ?_)
  intro w1 x1 hx1 hs1 hk1 hb1
  have hml := (h.lt _ h.mIn).2.1
  have hmx : x1 ∉ [M.m] := by
    intro hm
    have hm : x1 = (M.at a).o.m := List.mem_singleton.1 hm
    omega
  have h1 := Vx.keep0 h hk1
  refine au ?_
  refine pl_val _ rfl rfl (val_load1 hT rfl rfl rfl (hb1.cell rfl)) ?_
  obtain ⟨k, rfl⟩ : ∃ k : Nat, A = (k : Nat) := ⟨A.toNat, by omega⟩
  refine aub ?_
  refine pl_op rfl rfl (opTo_call (fst := []) (cap := []) rfl rfl rfl rfl (by decide +kernel) ((mpop_ret h1 h1s (by show a.stack.length ≤ 59; omega)).mono ?_))
  rintro r w2 ⟨rfl, h2, hk2⟩
  have hb2 := hk2.blk hb1 hmx
  clear hb1
  by_cases ht : topS a.stack = 0
  · rw [if_pos ht]
    refine ye ?_
    refine au ?_
    refine pl_val _ rfl rfl (val_load1 hT rfl rfl rfl (hb2.cell rfl)) ?_
    refine pl_op rfl rfl (opTo_call (fst := []) (cap := []) rfl rfl rfl rfl (by decide +kernel) ((mjump_ret h2 k).mono ?_))
    rintro r w3 ⟨rfl, h3, hk3⟩
    refine au ?_
    exact rn_end Tryz.func87 (.inr (.inl ⟨rfl, rfl⟩)) ⟨rfl, Dn.late hk1 (Dn.of (M := M) h3 h.mIn (hk2.tr hk3))⟩
  · rw [if_neg ht]
    refine nay ?_
    refine au ?_
    exact rn_end Tryz.func87 (.inr (.inl ⟨rfl, rfl⟩)) ⟨rfl, Dn.late hk1 (Dn.of (M := M) h2 h.mIn hk2)⟩

theorem mdo_jump (h : Vm Y Z R B w x fp (M.at a)) (h0 : 0 ≤ A) :
    Ret Tryz.prog 87 [.pointer (some ⟨x, 0, none⟩), .agg (iC (14, A, K, N)).toArray] w fun r w' => r = .tuple #[] ∧ Dn Y Z R B w w' x fp { M with md := { a with next := A.toNat } } := by
  refine ret_of 104 Tryz.func87 rfl rfl (by simp) ?_
  refine au ?_
  refine pl_op rfl rfl (opTo_boxN (iC (14, A, K, N)) rfl rfl rfl ?_)
  intro w1 x1 hx1 hs1 hk1 hb1
  have hml := (h.lt _ h.mIn).2.1
  have hmx : x1 ∉ [M.m] := by
    intro hm
    have hm : x1 = (M.at a).o.m := List.mem_singleton.1 hm
    omega
  have h1 := Vx.keep0 h hk1
  refine au ?_
  refine pl_val _ rfl rfl (val_load1 hT rfl rfl rfl (hb1.cell rfl)) ?_
  obtain ⟨k, rfl⟩ : ∃ k : Nat, A = (k : Nat) := ⟨A.toNat, by omega⟩
  refine aub ?_
  refine pl_op rfl rfl (opTo_call (fst := []) (cap := []) rfl rfl rfl rfl (by decide +kernel) ((mjump_ret h1 k).mono ?_))
  rintro r w2 ⟨rfl, h2, hk2⟩
  refine au ?_
  exact rn_end Tryz.func87 (.inr (.inl ⟨rfl, rfl⟩)) ⟨rfl, Dn.late hk1 (Dn.of (M := M) h2 h.mIn hk2)⟩

theorem mdo_halt (h : Vm Y Z R B w x fp (M.at a))  :
    Ret Tryz.prog 87 [.pointer (some ⟨x, 0, none⟩), .agg (iC (16, A, K, N)).toArray] w fun r w' => r = .tuple #[] ∧ Dn Y Z R B w w' x fp { M with md := { a with next := a.next + 1, state := 1 } } := by
  refine ret_of 104 Tryz.func87 rfl rfl (by simp) ?_
  refine au ?_
  refine pl_op rfl rfl (opTo_boxN (iC (16, A, K, N)) rfl rfl rfl ?_)
  intro w1 x1 hx1 hs1 hk1 hb1
  have hml := (h.lt _ h.mIn).2.1
  have hmx : x1 ∉ [M.m] := by
    intro hm
    have hm : x1 = (M.at a).o.m := List.mem_singleton.1 hm
    omega
  have h1 := Vx.keep0 h hk1
  refine au ?_
  refine pl_val _ rfl rfl (val_load1 hT rfl rfl rfl (hb1.cell rfl)) ?_
  refine aub ?_
  refine pl_val _ rfl rfl (val_load1 hT rfl rfl rfl (h1.ptr)) ?_
  refine pl_op rfl rfl (opTo_call (fst := []) (cap := []) rfl rfl rfl rfl (by decide +kernel) ((h1.put (E' := fun W => Ena Z W { a with next := a.next + 1, state := 1 }) 4 1 fun W hl e => by
    rw [show (4 : Int) = ((4 : Nat) : Int) from rfl, putW_at W _ (by decide)]
    exact ena_state e hl rfl).mono ?_))
  rintro r w2 ⟨rfl, h2, hk2⟩
  refine au ?_
  exact rn_end Tryz.func87 (.inr (.inl ⟨rfl, rfl⟩)) ⟨rfl, Dn.late hk1 (Dn.of (M := M) h2 h.mIn hk2)⟩

theorem mdo_commit {Y' : Nat → List Int → Prop} (h : Vm Y Z R B w x fp (M.at a)) (hY : ∀ d S S2 W, Y d S → Ena Z W (M.at a).md → W.length = 112 → allS S2 = W → Y' d S2) (hl : M.left = 0) (ht : M.torn = false) (hg : M.gen < 1000000) :
    Ret Tryz.prog 87 [.pointer (some ⟨x, 0, none⟩), .agg (iC (15, A, K, N)).toArray] w fun r w' => r = .tuple #[] ∧ Dn Y' Z R B w w' x fp { M with md := { a with next := a.next + 1 }, gen := M.gen + 1 } := by
  refine ret_of 104 Tryz.func87 rfl rfl (by simp) ?_
  refine au ?_
  refine pl_op rfl rfl (opTo_boxN (iC (15, A, K, N)) rfl rfl rfl ?_)
  intro w1 x1 hx1 hs1 hk1 hb1
  have hml := (h.lt _ h.mIn).2.1
  have hmx : x1 ∉ [M.m] := by
    intro hm
    have hm : x1 = (M.at a).o.m := List.mem_singleton.1 hm
    omega
  have h1 := Vx.keep0 h hk1
  refine au ?_
  refine pl_val _ rfl rfl (val_load1 hT rfl rfl rfl (hb1.cell rfl)) ?_
  refine aub ?_
  refine rn_draw (fun w' => w'.cell? ⟨x, 0, none⟩ = some (.pointer (some ⟨M.m, 0, none⟩))) [11] hMix ?_
  have hS : Keep [] w1 w1.drew := (Keep.refl _ _).drew
  have h1 := Vx.keep0 h1 hS
  generalize w1.drew = w2 at *
  refine tk 0 ?_
  refine tk 1 ?_
  refine tk 2 ?_
  refine tk 3 ?_
  refine dr_val 4 (.pointer (some ⟨M.m, 0, none⟩)) rfl (by decide +kernel) rfl rfl (fun w9 hS9 => val_load1 hT rfl rfl rfl hS9) h1.ptr ?_
  refine tk 5 ?_
  refine dr_op 6 rfl (by decide +kernel) rfl rfl (opTo_call (fst := []) (cap := []) rfl rfl rfl rfl (by decide +kernel) ((mdeeds_all h1 (by show M.left ≤ 0; omega)).mono ?_))
  rintro r w2' ⟨rfl, hww⟩
  rw [hww]
  refine ⟨fun _ => h1.ptr, ?_⟩
  refine dr_op 7 rfl (by decide +kernel) rfl rfl (opTo_call (fst := []) (cap := []) rfl rfl rfl rfl (by decide +kernel) ((h1.sync hg hY).mono ?_))
  rintro r w3 ⟨rfl, fp3, h3, hk3, hf3⟩
  refine ⟨fun _ => h3.ptr, ?_⟩
  refine tk 8 ?_
  refine tk 9 ?_
  refine tk 10 ?_
  obtain ⟨cv, iv, hbk, _, _, _⟩ := h3.bk
  refine dr_op 11 rfl (by decide +kernel) rfl rfl (opTo_storeN [.bool false] rfl rfl rfl rfl size_bo hbk (by simp [maC]) (one_v rfl) ?_)
  intro w4 hs4 hk4 hb4
  refine ⟨fun h => absurd (by simp) h, ?_⟩
  refine dr_done (by decide +kernel) ?_
  have h4 := h3.own (left := M.left) (torn := M.torn) hk4 fun {cv' iv'} hbk' => by
    rw [ht]
    have e := Blk.inj hbk hbk'
    simp only [maC, List.cons.injEq] at e
    rw [← e.2.1, ← e.2.2.1]
    exact hb4
  refine au ?_
  refine rn_end Tryz.func87 (.inr (.inl ⟨rfl, rfl⟩)) ⟨rfl, Dn.late (hk1.tr hS) ⟨fp3, Vx.mono h4 (fun _ _ e => e.b), hk3.trans hk4 fun k hk => .inl ?_, hf3⟩⟩
  rw [List.mem_singleton.1 hk]
  exact h.in

theorem mdo_tear (h : Vm Y Z R B w x fp (M.at a)) (hl0 : 0 < M.left) (hl1 : M.left < 9223372036854775808) (hg : M.gen < 1000000) :
    Ret Tryz.prog 87 [.pointer (some ⟨x, 0, none⟩), .agg (iC (15, A, K, N)).toArray] w fun r w' => r = .tuple #[] ∧ TnD Y (fun W => Ena Z W (M.at a).md) R B w w' fp M.o ∧ Keep fp w w' := by
  refine ret_of 104 Tryz.func87 rfl rfl (by simp) ?_
  refine au ?_
  refine pl_op rfl rfl (opTo_boxN (iC (15, A, K, N)) rfl rfl rfl ?_)
  intro w1 x1 hx1 hs1 hk1 hb1
  have hml := (h.lt _ h.mIn).2.1
  have hmx : x1 ∉ [M.m] := by
    intro hm
    have hm : x1 = (M.at a).o.m := List.mem_singleton.1 hm
    omega
  have h1 := Vx.keep0 h hk1
  refine au ?_
  refine pl_val _ rfl rfl (val_load1 hT rfl rfl rfl (hb1.cell rfl)) ?_
  refine aub ?_
  refine rn_draw (fun w' => w'.cell? ⟨x, 0, none⟩ = some (.pointer (some ⟨M.m, 0, none⟩))) [11] hMix ?_
  have hS : Keep [] w1 w1.drew := (Keep.refl _ _).drew
  have h1 := Vx.keep0 h1 hS
  generalize w1.drew = w2 at *
  refine tk 0 ?_
  refine tk 1 ?_
  refine tk 2 ?_
  refine tk 3 ?_
  refine dr_val 4 (.pointer (some ⟨M.m, 0, none⟩)) rfl (by decide +kernel) rfl rfl (fun w9 hS9 => val_load1 hT rfl rfl rfl hS9) h1.ptr ?_
  refine tk 5 ?_
  obtain ⟨d, s, S, W, D, wv, cv, iv, pv, rfl, hv, he, hY⟩ := h1
  have hbk := hv.blk
  refine dr_op 6 rfl (by decide +kernel) rfl rfl (opTo_call (fst := []) (cap := []) rfl rfl rfl rfl (by decide +kernel) ((mdeeds_some hbk hv.st.mem hl0 hl1).mono ?_))
  rintro r w3 ⟨⟨may, rfl, hdn, hde⟩, hk3⟩
  have hb3 := hk3.blk hbk (by simp)
  refine ⟨fun _ => hb3.cell rfl, ?_⟩
  refine dr_op 7 rfl (by decide +kernel) rfl rfl (opTo_call (fst := []) (cap := []) rfl rfl rfl rfl (by decide +kernel) ((sync_ret (hv.st.mem.keep hk3 (by simp)) (hk3.blk hv.st.sto (by simp)) (hv.st.dsk.keep hk3 (by simp)) (by rw [hv.gen]; exact hg) may).mono ?_))
  rintro r w4 ⟨rfl, _, _, hk4, wv4, hd4, hf4⟩
  rw [hde] at hd4
  rw [hdn]
  have hb4 := hk4.blk hb3 fun hm => by
    rcases List.mem_cons.1 hm with h3 | h3
    · exact Blk.ne hbk hv.st.mem.blk (by decide) h3
    · exact not_fp hv.st.dsk hbk (by decide) h3
  refine ⟨fun _ => hb4.cell rfl, ?_⟩
  refine tk 8 ?_
  refine tk 9 ?_
  refine tk 10 ?_
  refine dr_op 11 rfl (by decide +kernel) rfl rfl (opTo_storeN [.bool true] rfl rfl rfl rfl size_bo hb4 (by simp [maC]) (one_v rfl) ?_)
  intro w5 hs5 hk5 hb5
  refine ⟨fun h => absurd (by simp) h, ?_⟩
  refine dr_done (by decide +kernel) ?_
  refine au ?_
  have hfm : ∀ k ∈ M.m :: fpD d wv, k ∈ fpV x d s M.m wv M.q pv iv := fun k hk => by
    rcases List.mem_cons.1 hk with h3 | h3
    · exact mem_fpV.2 (.inr (.inl h3))
    · exact mem_fpV.2 (.inr (.inr (.inr (.inl h3))))
  have hp4 : Pv R B w4 M.q pv M.pr := (hv.pr.keep hk3 (fun k hm => by cases hm)).keep hk4 fun k hm hq => by
    rcases List.mem_cons.1 hm with h3 | h3
    · rcases List.mem_cons.1 hq with h5 | h5
      · exact Blk.ne hv.st.mem.blk hv.pr.blk (by decide) (h3.symm.trans h5)
      · exact hv.pr.row.ne hv.st.mem.blk (by decide) k h5 (by rw [h3]; simp)
    · rcases List.mem_cons.1 hq with h5 | h5
      · rw [h5] at h3
        exact not_fp hv.st.dsk hv.pr.blk (by decide) h3
      · obtain ⟨L, hL⟩ := hv.pr.row.blk k h5
        exact not_fp hv.st.dsk hL (by decide) h3
  have hp5 : Pv R B w5 M.q pv M.pr := hp4.keep hk5 fun k hm hq => by
    rw [List.mem_singleton.1 hm] at hq
    rcases List.mem_cons.1 hq with h5 | h5
    · exact Blk.ne hv.blk hv.pr.blk (by decide) h5
    · exact hv.pr.row.ne hv.blk (by decide) _ h5 (by simp)
  have hd5 := hd4.keep hk5 fun k hm hx => by
    rw [List.mem_singleton.1 hx] at hm
    exact not_fp hd4 hb4 (by decide) hm
  have hk25 : Keep (fpV x d s M.m wv M.q pv iv) w2 w5 := ((hk3.of0.trans hk4 fun k hk => .inl (hfm k hk)).trans hk5 fun k hk => .inl (by rw [List.mem_singleton.1 hk]; exact mem_fpV.2 (.inl rfl)))
  refine rn_end Tryz.func87 (.inr (.inl ⟨rfl, rfl⟩)) ⟨rfl, ⟨d, S, W, D, wv4, pv, he, hY, hv.st.mem.wl, hv.st.good, hv.st.tied, hv.gen, hd5, hp5, fun k hk => ?_, fun k hk => mem_fpV.2 (.inr (.inr (.inr (.inr (.inl hk)))))⟩, (hk1.tr hS).of0.tr hk25⟩
  rcases hf4 k hk with h3 | h3
  · exact .inl (hfm k (List.mem_cons_of_mem _ h3))
  · exact .inr (Nat.le_trans (hk1.tr (hS.tr hk3)).size h3)

end
end E
end Go.Proofs.YtmplkogkphmmjafGreat
