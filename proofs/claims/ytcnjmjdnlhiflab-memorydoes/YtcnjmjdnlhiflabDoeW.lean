/- MemoryDoes walked: it returns true. -/
import Derived.Test.YtcnjmjdnlhiflabMoF
namespace Go.Proofs.Ytcnjmjdnlhiflab
set_option maxRecDepth 20000
namespace E
open Go.Proofs

theorem zero_pd : ((Try.prog.info? 30).bind (·.zero)).map (·.cells) = some [Value.pointer none].toArray := by kernel_rfl
theorem zero_pv : ((Try.prog.info? 46).bind (·.zero)).map (·.cells) = some [Value.pointer none].toArray := by kernel_rfl
theorem zero_pm : ((Try.prog.info? 49).bind (·.zero)).map (·.cells) = some [Value.pointer none].toArray := by kernel_rfl
theorem zero_sl : ((Try.prog.info? 51).bind (·.zero)).map (·.cells) = some [Value.slice none 0 0].toArray := by kernel_rfl
theorem zero_i64 : ((Try.prog.info? 2).bind (·.zero)).map (·.cells) = some [Value.int .i64 0].toArray := by kernel_rfl
theorem zero_mstep : ((Try.prog.info? 54).bind (·.zero)).map (·.cells) = some (scell ⟨0, 0, 0, 0, 0⟩).toArray := by kernel_rfl
theorem built_vault : Try.prog.built 48 [] = some (vcells 0 (fun _ => z8) false (fun _ => z8)).toArray := by kernel_rfl
theorem made112 : madeCells [Value.int .i64 0].toArray (112 * 1) = (ints (List.replicate 112 0)).toArray := by kernel_rfl
theorem info_i64 : ∃ i z, Try.prog.info? 2 = some i ∧ i.zero = some z ∧ i.size = 1 ∧ i.bytes = 8 ∧ z.cells = [Value.int .i64 0].toArray := by
  obtain ⟨i, z, _, hi, hz, hs, hb, _⟩ := appOk_run (P := Try.prog) (t := 51) (e := 2) (size := 1) (bytes := 8) (by decide +kernel)
  have h0 := zero_i64
  rw [hi] at h0
  simp only [Option.bind_some, hz, Option.map_some, Option.some.injEq] at h0
  exact ⟨i, z, hi, hz, hs, hb, h0⟩

theorem zero_rpage : ((Try.prog.info? 58).bind (·.zero)).map (·.cells) = some (pcell (0, List.replicate 8 0)).toArray := by kernel_rfl

set_option maxHeartbeats 1600000 in
theorem mdoes_ret {w : World} {lv : Value} {st : List MStep} (h0 : ArgM w.heap.size w lv st) :
    Ret Try.prog 4 [lv] w fun v w' => v = .bool true ∧ Keep [] w w' := by
  refine ret_of 208 Try.func4 rfl rfl (by simp) ?_
  obtain ⟨la, lcap, hlv⟩ := h0.form
  repeat (first | refine pl_pure hT rfl rfl rfl ?_ | refine pl_nil ?_ | refine rn_seq ?_ | refine rn_plain ?_ | refine rn_block ?_ | refine rn_inBlock ?_ | refine rn_skip ?_ | refine rn_true rfl ?_ | refine rn_false rfl ?_ | refine rn_exit rfl ?_ | refine pl_not rfl rfl ?_)
  refine pl_op rfl rfl (opTo_call rfl rfl rfl rfl (by decide +kernel) ((memoryBegun_ret w).mono ?_))
  rintro v w1 ⟨rfl, hk1⟩
  repeat (first | refine pl_pure hT rfl rfl rfl ?_ | refine pl_nil ?_ | refine rn_seq ?_ | refine rn_plain ?_ | refine rn_block ?_ | refine rn_inBlock ?_ | refine rn_skip ?_ | refine rn_true rfl ?_ | refine rn_false rfl ?_ | refine rn_exit rfl ?_ | refine pl_not rfl rfl ?_)
  refine pl_val (.int .i64 st.length) rfl rfl (val_pure hT (by rw [hlv]; rfl) w1) ?_
  by_cases hbig : st.length > 150
  · refine pl_val (.bool true) rfl rfl (val_int .i64 _ 150 _ rfl rfl rfl (by simp [intOp]; omega) w1) ?_
    repeat (first | refine pl_pure hT rfl rfl rfl ?_ | refine pl_nil ?_ | refine rn_seq ?_ | refine rn_plain ?_ | refine rn_block ?_ | refine rn_inBlock ?_ | refine rn_skip ?_ | refine rn_true rfl ?_ | refine rn_false rfl ?_ | refine rn_exit rfl ?_ | refine pl_not rfl rfl ?_)
    exact rn_ret Try.func4 (.inl ⟨_, rfl, rfl⟩) ⟨rfl, hk1⟩
  refine pl_val (.bool false) rfl rfl (val_int .i64 _ 150 _ rfl rfl rfl (by simp [intOp]; omega) w1) ?_
  repeat (first | refine pl_pure hT rfl rfl rfl ?_ | refine pl_nil ?_ | refine rn_seq ?_ | refine rn_plain ?_ | refine rn_block ?_ | refine rn_inBlock ?_ | refine rn_skip ?_ | refine rn_true rfl ?_ | refine rn_false rfl ?_ | refine rn_exit rfl ?_ | refine pl_not rfl rfl ?_)
  refine pl_op rfl rfl (opTo_call rfl rfl rfl rfl (by decide +kernel) ((new_ret w1).mono ?_))
  rintro v w2 ⟨rfl, h2, hk2⟩
  rw [show List.replicate 272 (0 : Int) = S0 from rfl] at h2
  have hkw2 := hk1.tr0 hk2
  have hBd : w.heap.size ≤ w1.heap.size := hk1.size
  generalize w1.heap.size = d at *
  clear hk1 hk2
  refine pl_val _ rfl rfl (val_build _ rfl rfl built_vault w2) ?_
  refine pl_op rfl rfl (opTo_box _ rfl rfl rfl ?_)
  have hk3 : Keep [] w2 (w2.alloc (.cells (vcells 0 (fun _ => z8) false (fun _ => z8)).toArray 48)) := (Keep.refl _ _).alloc _
  have hv3 := Blk.new w2 (vcells 0 (fun _ => z8) false (fun _ => z8)) 48
  generalize (w2.alloc (.cells (vcells 0 (fun _ => z8) false (fun _ => z8)).toArray 48)) = w3 at *
  have h3 := h2.keep hk3 (by simp)
  have hBv : w.heap.size ≤ w2.heap.size := hkw2.size
  have hkw3 := hkw2.tr0 hk3
  generalize w2.heap.size = vb at *
  clear h2 hkw2 hk3
  refine pl_op rfl rfl (opTo_alloc _ rfl zero_pd ?_)
  have hk4 : Keep [] w3 (w3.alloc (.cells [Value.pointer none].toArray 30)) := (Keep.refl _ _).alloc _
  have hd4 := Blk.new w3 [Value.pointer none] 30
  generalize (w3.alloc (.cells [Value.pointer none].toArray 30)) = w4 at *
  have h4 := h3.keep hk4 (by simp)
  have hv4 := hk4.blk hv3 (by simp)
  have hBbd : w.heap.size ≤ w3.heap.size := hkw3.size
  have hkw4 := hkw3.tr0 hk4
  generalize w3.heap.size = bd at *
  clear h3 hkw3 hk4 hv3
  refine pl_op rfl rfl (opTo_alloc _ rfl zero_pv ?_)
  have hk5 : Keep [] w4 (w4.alloc (.cells [Value.pointer none].toArray 46)) := (Keep.refl _ _).alloc _
  have hw5 := Blk.new w4 [Value.pointer none] 46
  generalize (w4.alloc (.cells [Value.pointer none].toArray 46)) = w5 at *
  have h5 := h4.keep hk5 (by simp)
  have hv5 := hk5.blk hv4 (by simp)
  have hd5 := hk5.blk hd4 (by simp)
  have hBbv : w.heap.size ≤ w4.heap.size := hkw4.size
  have hkw5 := hkw4.tr0 hk5
  generalize w4.heap.size = bv at *
  clear h4 hkw4 hk5 hv4 hd4
  refine pl_op rfl rfl (opTo_store [.pointer (some ⟨d, 0, none⟩)] rfl rfl rfl rfl (by kernel_rfl) hd5 (by simp) (by simp; rfl) ?_)
  rw [splice_all (by rfl)]
  have hk6 := keep_row (w := w5) (b := bd) [Value.pointer (some ⟨d, 0, none⟩)].toArray
  have ho6 := Off.one hd5
  have h6 := h5.typ hk6 ho6 (by decide)
  have hv6 := hk6.typ ho6 hv5 (by decide)
  have hw6 := hk6.typ ho6 hw5 (by decide)
  have hd6 := hd5.set [Value.pointer (some ⟨d, 0, none⟩)]
  have hkw6 := hkw5.setRow bd [Value.pointer (some ⟨d, 0, none⟩)].toArray (.inr hBbd)
  generalize (w5.setRow bd [Value.pointer (some ⟨d, 0, none⟩)].toArray) = w6 at *
  clear h5 hv5 hw5 hd5 hkw5 hk6 ho6
  refine pl_op rfl rfl (opTo_store [.pointer (some ⟨vb, 0, none⟩)] rfl rfl rfl rfl (by kernel_rfl) hw6 (by simp) (by simp; rfl) ?_)
  rw [splice_all (by rfl)]
  have hk7 := keep_row (w := w6) (b := bv) [Value.pointer (some ⟨vb, 0, none⟩)].toArray
  have ho7 := Off.one hw6
  have h7 := h6.typ hk7 ho7 (by decide)
  have hv7 := hk7.typ ho7 hv6 (by decide)
  have hd7 := hk7.typ ho7 hd6 (by decide)
  have hw7 := hw6.set [Value.pointer (some ⟨vb, 0, none⟩)]
  have hkw7 := hkw6.setRow bv [Value.pointer (some ⟨vb, 0, none⟩)].toArray (.inr hBbv)
  generalize (w6.setRow bv [Value.pointer (some ⟨vb, 0, none⟩)].toArray) = w7 at *
  clear h6 hv6 hw6 hd6 hkw6 hk7 ho7
  repeat (first | refine pl_pure hT rfl rfl rfl ?_ | refine pl_nil ?_ | refine rn_seq ?_ | refine rn_plain ?_ | refine rn_block ?_ | refine rn_inBlock ?_ | refine rn_skip ?_ | refine rn_true rfl ?_ | refine rn_false rfl ?_ | refine rn_exit rfl ?_ | refine pl_not rfl rfl ?_)
  refine pl_val _ rfl rfl (val_load1 hT rfl rfl rfl (hd7.cell rfl)) ?_
  refine pl_op rfl rfl (opTo_call rfl rfl rfl rfl (by decide +kernel) ((open_ret d w7).mono ?_))
  rintro v w8 ⟨rfl, hs8, hk8⟩
  have h8 := h7.keep hk8 (by simp)
  generalize w7.heap.size = s at *
  refine pl_op rfl rfl (opTo_call rfl rfl rfl rfl (by decide +kernel) ((mnew_ret hs8 h8).mono ?_))
  rintro v w9 ⟨m, rfl, hle, hm9, hk9⟩
  have hdm : d ≤ m := by have := (h8.lt d (by simp [fpD])).2; omega
  have h9 := fresh_st hm9 hs8 h8 good0 hk9 hdm
  rw [allS0] at h9
  have hk79 := hk8.tr0 hk9
  have hv9 := hk79.blk hv7 (by simp)
  have hd9 := hk79.blk hd7 (by simp)
  have hw9 := hk79.blk hw7 (by simp)
  have hkw9 := hkw7.tr0 hk79
  clear h7 hv7 hd7 hw7 hkw7 hs8 hk8 h8 hle hm9 hk9 hdm hk79
  refine pl_op rfl rfl (opTo_alloc _ rfl zero_pm ?_)
  have hk10 : Keep [] w9 (w9.alloc (.cells [Value.pointer none].toArray 49)) := (Keep.refl _ _).alloc _
  have hm10 := Blk.new w9 [Value.pointer none] 49
  generalize (w9.alloc (.cells [Value.pointer none].toArray 49)) = w10 at *
  have hBbm : w.heap.size ≤ w9.heap.size := hkw9.size
  have h10 := h9.keep0 hk10
  have hv10 := hk10.blk hv9 (by simp)
  have hd10 := hk10.blk hd9 (by simp)
  have hw10 := hk10.blk hw9 (by simp)
  have hkw10 := hkw9.tr0 hk10
  generalize w9.heap.size = bm at *
  clear h9 hv9 hd9 hw9 hkw9 hk10
  refine pl_op rfl rfl (opTo_store [.pointer (some ⟨m, 0, none⟩)] rfl rfl rfl rfl (by kernel_rfl) hm10 (by simp) (by simp; rfl) ?_)
  rw [splice_all (by rfl)]
  have hk11 := keep_row (w := w10) (b := bm) [Value.pointer (some ⟨m, 0, none⟩)].toArray
  have ho11 := Off.one hm10
  have h11 := h10.typ hk11 ho11 (by decide) (by decide) (by decide)
  have hv11 := hk11.typ ho11 hv10 (by decide)
  have hd11 := hk11.typ ho11 hd10 (by decide)
  have hw11 := hk11.typ ho11 hw10 (by decide)
  have hm11 := hm10.set [Value.pointer (some ⟨m, 0, none⟩)]
  have hkw11 := hkw10.setRow bm [Value.pointer (some ⟨m, 0, none⟩)].toArray (.inr hBbm)
  generalize (w10.setRow bm [Value.pointer (some ⟨m, 0, none⟩)].toArray) = w11 at *
  clear h10 hv10 hd10 hw10 hm10 hkw10 hk11 ho11
  repeat (first | refine pl_pure hT rfl rfl rfl ?_ | refine pl_nil ?_ | refine rn_seq ?_ | refine rn_plain ?_ | refine rn_block ?_ | refine rn_inBlock ?_ | refine rn_skip ?_ | refine rn_true rfl ?_ | refine rn_false rfl ?_ | refine rn_exit rfl ?_ | refine pl_not rfl rfl ?_)
  obtain ⟨inf, zv, hinf, hzv, hisz, hiby, hzc⟩ := info_i64
  refine pl_op rfl rfl (opTo_make 112 (ints (List.replicate 112 0)) inf zv rfl rfl rfl Try.underlying51 hinf hzv (by rw [hiby]; decide) (by decide) (by rw [hzc, hisz]; exact made112) ?_)
  clear hinf hzv hisz hiby hzc
  have hk12 : Keep [] w11 (w11.alloc (.cells (ints (List.replicate 112 0)).toArray 2)) := (Keep.refl _ _).alloc _
  have hn12 := Blk.new w11 (ints (List.replicate 112 0)) 2
  generalize (w11.alloc (.cells (ints (List.replicate 112 0)).toArray 2)) = w12 at *
  have hBg : w.heap.size ≤ w11.heap.size := hkw11.size
  have h12 := h11.keep0 hk12
  have hv12 := hk12.blk hv11 (by simp)
  have hd12 := hk12.blk hd11 (by simp)
  have hw12 := hk12.blk hw11 (by simp)
  have hm12 := hk12.blk hm11 (by simp)
  have hkw12 := hkw11.tr0 hk12
  generalize w11.heap.size = g at *
  clear h11 hv11 hd11 hw11 hm11 hkw11 hk12
  refine pl_op rfl rfl (opTo_alloc _ rfl zero_sl ?_)
  have hk13 : Keep [] w12 (w12.alloc (.cells [Value.slice none 0 0].toArray 51)) := (Keep.refl _ _).alloc _
  have hb13 := Blk.new w12 [Value.slice none 0 0] 51
  generalize (w12.alloc (.cells [Value.slice none 0 0].toArray 51)) = w13 at *
  have hBbn : w.heap.size ≤ w12.heap.size := hkw12.size
  have h13 := h12.keep0 hk13
  have hv13 := hk13.blk hv12 (by simp)
  have hd13 := hk13.blk hd12 (by simp)
  have hw13 := hk13.blk hw12 (by simp)
  have hm13 := hk13.blk hm12 (by simp)
  have hn13 := hk13.blk hn12 (by simp)
  have hkw13 := hkw12.tr0 hk13
  generalize w12.heap.size = bn at *
  clear h12 hv12 hd12 hw12 hm12 hn12 hkw12 hk13
  refine pl_op rfl rfl (opTo_store [.slice (some ⟨g, 0, none⟩) 112 112] rfl rfl rfl rfl (by kernel_rfl) hb13 (by simp) (by simp; rfl) ?_)
  rw [splice_all (by rfl)]
  have hk14 := keep_row (w := w13) (b := bn) [Value.slice (some ⟨g, 0, none⟩) 112 112].toArray
  have ho14 := Off.one hb13
  have h14 := h13.typ hk14 ho14 (by decide) (by decide) (by decide)
  have hv14 := hk14.typ ho14 hv13 (by decide)
  have hd14 := hk14.typ ho14 hd13 (by decide)
  have hw14 := hk14.typ ho14 hw13 (by decide)
  have hm14 := hk14.typ ho14 hm13 (by decide)
  have hn14 := hk14.typ ho14 hn13 (by decide)
  have hb14 := hb13.set [Value.slice (some ⟨g, 0, none⟩) 112 112]
  have hkw14 := hkw13.setRow bn [Value.slice (some ⟨g, 0, none⟩) 112 112].toArray (.inr hBbn)
  generalize (w13.setRow bn [Value.slice (some ⟨g, 0, none⟩) 112 112].toArray) = w14 at *
  clear h13 hv13 hd13 hw13 hm13 hn13 hb13 hkw13 hk14 ho14
  repeat (first | refine pl_pure hT rfl rfl rfl ?_ | refine pl_nil ?_ | refine rn_seq ?_ | refine rn_plain ?_ | refine rn_block ?_ | refine rn_inBlock ?_ | refine rn_skip ?_ | refine rn_true rfl ?_ | refine rn_false rfl ?_ | refine rn_exit rfl ?_ | refine pl_not rfl rfl ?_)
  refine pl_op rfl rfl (opTo_alloc _ rfl zero_ahead ?_)
  have hk15 : Keep [] w14 (w14.alloc (.cells (bools (List.replicate 14 false)).toArray 52)) := (Keep.refl _ _).alloc _
  have ht15 := Blk.new w14 (bools (List.replicate 14 false)) 52
  generalize (w14.alloc (.cells (bools (List.replicate 14 false)).toArray 52)) = w15 at *
  have hBbt : w.heap.size ≤ w14.heap.size := hkw14.size
  have hz : Full fun _ : Nat => z8 := fun _ => rfl
  have hD15 : Duo w w15 ⟨d, vb, bd, bv, bm, bn, w14.heap.size, g⟩ s m S0 (List.replicate 112 0) (List.replicate 14 false) (.slice none 0 0) (fun _ => z8) (fun _ => z8) 0 :=
    ⟨hkw14.tr0 hk15, h14.keep0 hk15, ⟨hk15.blk hd14 (by simp), hk15.blk hw14 (by simp), hk15.blk hm14 (by simp), hk15.blk hb14 (by simp), ht15, hk15.blk hn14 (by simp), by rw [genS0]; exact hk15.blk hv14 (by simp)⟩, hz, hz, fun i _ => read0 _, by rw [genS0]; decide⟩
  have hlo : Lo w ⟨d, vb, bd, bv, bm, bn, w14.heap.size, g⟩ := ⟨hBd, hBv, hBbm, hBbt, hBg⟩
  obtain ⟨c, hc⟩ : ∃ c : Cfg, c = ⟨d, vb, bd, bv, bm, bn, w14.heap.size, g⟩ := ⟨_, rfl⟩
  rw [← hc] at hD15 hlo
  have e1 : d = c.d := by rw [hc]
  have e2 : vb = c.vb := by rw [hc]
  have e3 : bd = c.bd := by rw [hc]
  have e4 : bv = c.bv := by rw [hc]
  have e5 : bm = c.bm := by rw [hc]
  have e6 : bn = c.bn := by rw [hc]
  have e7 : w14.heap.size = c.bt := by rw [hc]
  have e8 : g = c.g := by rw [hc]
  rw [e7]
  clear h14 hv14 hd14 hw14 hm14 hn14 hb14 hkw14 hk15 ht15 hBd hBv hBbd hBbv hBbm hBg hBbn hBbt hc e7
  subst e1 e2 e3 e4 e5 e6 e8
  repeat (first | refine pl_pure hT rfl rfl rfl ?_ | refine pl_nil ?_ | refine rn_seq ?_ | refine rn_plain ?_ | refine rn_block ?_ | refine rn_inBlock ?_ | refine rn_skip ?_ | refine rn_true rfl ?_ | refine rn_false rfl ?_ | refine rn_exit rfl ?_ | refine pl_not rfl rfl ?_)
  refine rn_ind (fun q σ w' => ∃ j s m S W D wv P X, q = st.length - j ∧ j ≤ st.length ∧ σ = [(0, lv), (3, .pointer (some ⟨c.bd, 0, none⟩)), (4, .pointer (some ⟨c.bv, 0, none⟩)), (5, .pointer (some ⟨c.bm, 0, none⟩)), (6, .pointer (some ⟨c.bn, 0, none⟩)), (7, .pointer (some ⟨c.bt, 0, none⟩)), (8, .func (.func 18) #[] #[.pointer (some ⟨c.bn, 0, none⟩), .pointer (some ⟨c.bv, 0, none⟩), .pointer (some ⟨c.bt, 0, none⟩), .pointer (some ⟨c.bd, 0, none⟩), .pointer (some ⟨c.bm, 0, none⟩)]), (9, .int .i64 (j : Nat))] ∧ Duo w w' c s m S W D wv P X j)
    (st.length - 0) _ ?_ ⟨0, s, m, _, _, _, _, _, _, rfl, Nat.zero_le _, rfl, hD15⟩ ?_
  · exact ⟨rfl, rfl, rfl, rfl, rfl, rfl, rfl, rfl, trivial⟩
  clear hD15
  clear s m
  rintro q σ w5 ih ⟨j, s, m, S, W, D, wv, P, X, hq, hj, rfl, hP5⟩
  repeat (first | refine pl_pure hT rfl rfl rfl ?_ | refine pl_nil ?_ | refine rn_seq ?_ | refine rn_plain ?_ | refine rn_block ?_ | refine rn_inBlock ?_ | refine rn_skip ?_ | refine rn_true rfl ?_ | refine rn_false rfl ?_ | refine rn_exit rfl ?_ | refine pl_not rfl rfl ?_)
  refine pl_val (.int .i64 st.length) rfl rfl (val_pure hT (by rw [hlv]; rfl) w5) ?_
  rcases Nat.lt_or_ge j st.length with hlt | hge
  case inr =>
    refine pl_val (.bool false) rfl rfl (val_int .i64 _ _ _ rfl rfl rfl (by simp [intOp]; omega) w5) ?_
    clear ih
    repeat (first | refine pl_pure hT rfl rfl rfl ?_ | refine pl_nil ?_ | refine rn_seq ?_ | refine rn_plain ?_ | refine rn_block ?_ | refine rn_inBlock ?_ | refine rn_skip ?_ | refine rn_true rfl ?_ | refine rn_false rfl ?_ | refine rn_exit rfl ?_ | refine pl_not rfl rfl ?_)
    have hk0 : Keep [] w5 w5.drew := (Keep.refl _ _).drew
    have hf5 := hP5.fx
    refine rn_draw (fun w' => Keep [] w5 w') [] hMix ?_
    refine dr_val 0 _ rfl (by decide +kernel) rfl rfl (fun w' hk => val_load1 hT rfl rfl rfl ((hk.blk hf5.boxm (by simp)).cell rfl)) hk0 ?_
    refine dr_val 2 _ rfl (by decide +kernel) rfl rfl (fun w' hk => val_load1 hT rfl rfl rfl ((hk.blk hf5.boxn (by simp)).cell rfl)) hk0 ?_
    refine dr_op 1 rfl (by decide +kernel) rfl rfl (opTo_call rfl rfl rfl rfl (by decide +kernel) ((all_ret (hP5.st.keep0 hk0).mem).mono ?_))
    rintro v w6 ⟨ha6, hk6⟩
    have hk6 := hk0.tr0 hk6
    refine ⟨fun _ => hk6, ?_⟩
    refine dr_op 3 rfl (by decide +kernel) rfl rfl (opTo_call rfl rfl rfl rfl (by decide +kernel) ((longs_ret ha6 ((hP5.fx.wds hP5.st.mem.wl).keep0 hk6)).mono ?_))
    rintro v w7 ⟨rfl, hk7⟩
    have hk7 := hk6.tr0 hk7
    refine ⟨fun _ => hk7, ?_⟩
    refine dr_pure 4 hT rfl (by decide +kernel) rfl rfl rfl ?_
    refine dr_val 5 _ rfl (by decide +kernel) rfl rfl (fun w' hk => val_load1 hT rfl rfl rfl ((hk.blk hf5.boxm (by simp)).cell rfl)) hk7 ?_
    refine dr_pure 6 hT rfl (by decide +kernel) rfl rfl rfl ?_
    refine dr_pure 7 hT rfl (by decide +kernel) rfl rfl rfl ?_
    refine dr_val 8 (.pointer (some ⟨s, 0, none⟩)) rfl (by decide +kernel) rfl rfl (fun w' hk => val_load1 hT rfl rfl rfl ((hk.blk hP5.st.mem.blk (by simp)).cell rfl)) hk7 ?_
    refine dr_val 10 _ rfl (by decide +kernel) rfl rfl (fun w' hk => val_load1 hT rfl rfl rfl ((hk.blk hf5.boxv (by simp)).cell rfl)) hk7 ?_
    refine dr_pure 11 hT rfl (by decide +kernel) rfl rfl rfl ?_
    refine dr_pure 12 hT rfl (by decide +kernel) rfl rfl rfl ?_
    refine dr_val 13 (.int .i64 (genS S)) rfl (by decide +kernel) rfl rfl (fun w' hk => val_load1 hT rfl rfl rfl ((hk.blk hf5.vault (by simp)).cell rfl)) hk7 ?_
    have h7 := hP5.st.keep0 hk7
    refine dr_op 9 rfl (by decide +kernel) rfl rfl (opTo_call rfl rfl rfl rfl (by decide +kernel) ((gen_ret h7.sto h7.dsk).mono ?_))
    rintro v w8 ⟨rfl, hk8⟩
    have hk8 := hk7.tr0 hk8
    refine ⟨fun _ => hk8, ?_⟩
    refine dr_any 14 (.bool true) rfl (by decide +kernel) rfl rfl (fun w' => val_int .i64 _ _ _ rfl rfl rfl (by simp [intOp]) w') ?_
    refine dr_pure 15 hT rfl (by decide +kernel) rfl rfl rfl ?_
    refine dr_pure 16 hT rfl (by decide +kernel) rfl rfl rfl ?_
    refine dr_done (by decide +kernel) ?_
    repeat (first | refine pl_pure hT rfl rfl rfl ?_ | refine pl_nil ?_ | refine rn_seq ?_ | refine rn_plain ?_ | refine rn_block ?_ | refine rn_inBlock ?_ | refine rn_skip ?_ | refine rn_true rfl ?_ | refine rn_false rfl ?_ | refine rn_exit rfl ?_ | refine pl_not rfl rfl ?_)
    exact rn_ret Try.func4 (.inl ⟨_, rfl, rfl⟩) ⟨rfl, hP5.keep.tr0 hk8⟩
  refine pl_val (.bool true) rfl rfl (val_int .i64 _ _ _ rfl rfl rfl (by simp [intOp]; omega) w5) ?_
  obtain ⟨u, hu⟩ : ∃ u, st[j]? = some u := ⟨_, List.getElem?_eq_getElem hlt⟩
  obtain ⟨b, o, cap, hv', hb, hr⟩ := (h0.keep hP5.keep (by simp)).at hu
  repeat (first | refine pl_pure hT rfl rfl rfl ?_ | refine pl_nil ?_ | refine rn_inBlock ?_ | refine rn_skip ?_ | refine rn_true rfl ?_ | refine rn_false rfl ?_ | refine rn_exit rfl ?_)
  refine rn_seq ?_
  refine rn_with (fun σ w' => ∃ s m S W D wv P X, σ = [(0, lv), (3, .pointer (some ⟨c.bd, 0, none⟩)), (4, .pointer (some ⟨c.bv, 0, none⟩)), (5, .pointer (some ⟨c.bm, 0, none⟩)), (6, .pointer (some ⟨c.bn, 0, none⟩)), (7, .pointer (some ⟨c.bt, 0, none⟩)), (8, .func (.func 18) #[] #[.pointer (some ⟨c.bn, 0, none⟩), .pointer (some ⟨c.bv, 0, none⟩), .pointer (some ⟨c.bt, 0, none⟩), .pointer (some ⟨c.bd, 0, none⟩), .pointer (some ⟨c.bm, 0, none⟩)]), (9, .int .i64 (j : Nat))] ∧ Duo w w' c s m S W D wv P X (j + 1)) ?_ ?_
  · rintro σ w6 ⟨s, m, S, W, D, wv, P, X, rfl, hP6⟩
    repeat (first | refine pl_pure hT rfl rfl rfl ?_ | refine pl_nil ?_ | refine rn_seq ?_ | refine rn_plain ?_ | refine rn_block ?_ | refine rn_inBlock ?_ | refine rn_skip ?_ | refine rn_true rfl ?_ | refine rn_false rfl ?_ | refine rn_exit rfl ?_ | refine pl_not rfl rfl ?_)
    refine pl_val (.int .i64 ((j + 1 : Nat) : Int)) rfl rfl (val_int .i64 j 1 _ rfl rfl rfl (by simp only [intOp]; rw [wrap_i64 (by omega) (by omega)]; rfl) w6) ?_
    repeat (first | refine pl_pure hT rfl rfl rfl ?_ | refine pl_nil ?_ | refine rn_seq ?_ | refine rn_plain ?_ | refine rn_block ?_ | refine rn_inBlock ?_ | refine rn_skip ?_ | refine rn_true rfl ?_ | refine rn_false rfl ?_ | refine rn_exit rfl ?_ | refine pl_not rfl rfl ?_)
    refine rn_sub ?_ (ih (st.length - (j + 1)) _ w6 (by omega) ⟨j + 1, s, m, S, W, D, wv, P, X, rfl, hlt, rfl, hP6⟩)
    exact ⟨rfl, rfl, rfl, rfl, rfl, rfl, rfl, rfl, trivial⟩
  intro hJ1
  clear ih
  refine rn_block ?_
  refine rn_seq ?_
  refine rn_plain ?_
  repeat (first | refine pl_pure hT rfl rfl rfl ?_)
  refine pl_val _ rfl rfl (val_index j hT rfl (by rw [hv']; rfl) rfl rfl rfl hlt w5) ?_
  refine pl_val (.agg (scell u).toArray) rfl rfl (val_load _ hT rfl rfl rfl hr) ?_
  refine pl_op rfl rfl (opTo_alloc _ rfl zero_mstep ?_)
  have hk6 : Keep [] w5 (w5.alloc (.cells (scell ⟨0, 0, 0, 0, 0⟩).toArray 54)) := (Keep.refl _ _).alloc _
  have hy6 := Blk.new w5 (scell ⟨0, 0, 0, 0, 0⟩) 54
  generalize (w5.alloc (.cells (scell ⟨0, 0, 0, 0, 0⟩).toArray 54)) = w6 at *
  refine pl_op rfl rfl (opTo_store (scell u) rfl rfl rfl rfl (by kernel_rfl) hy6 (by simp [scell]) (scell_one u) ?_)
  rw [splice_all (show (scell u).length = (scell ⟨0, 0, 0, 0, 0⟩).length from rfl)]
  have hk7 := hk6.setRow w5.heap.size (scell u).toArray (.inr (Nat.le_refl _))
  have hy7 := hy6.set (scell u)
  generalize (w6.setRow w5.heap.size (scell u).toArray) = w7 at *
  have hP7 := hP5.ext hk7
  generalize w5.heap.size = y at *
  clear hk6 hy6 hk7 hP5 hr hv' hb
  refine pl_nil ?_
  refine rn_seq ?_
  refine rn_with (fun σ w' => ∃ s m S W D wv P X, σ = [(0, lv), (3, .pointer (some ⟨c.bd, 0, none⟩)), (4, .pointer (some ⟨c.bv, 0, none⟩)), (5, .pointer (some ⟨c.bm, 0, none⟩)), (6, .pointer (some ⟨c.bn, 0, none⟩)), (7, .pointer (some ⟨c.bt, 0, none⟩)), (8, .func (.func 18) #[] #[.pointer (some ⟨c.bn, 0, none⟩), .pointer (some ⟨c.bv, 0, none⟩), .pointer (some ⟨c.bt, 0, none⟩), .pointer (some ⟨c.bd, 0, none⟩), .pointer (some ⟨c.bm, 0, none⟩)]), (9, .int .i64 (j : Nat)), (10, .pointer (some ⟨y, 0, none⟩))] ∧ Duo w w' c s m S W D wv P X (j + 1) ∧ Blk w' y (scell u) 54) ?_ ?_
  · clear hP7 hy7
    rintro σ w8 ⟨s, m, S, W, D, wv, P, X, rfl, hP8, hy8⟩
    have hk0 : Keep [] w8 w8.drew := (Keep.refl _ _).drew
    have hf8 := hP8.fx
    repeat (first | refine pl_pure hT rfl rfl rfl ?_ | refine pl_nil ?_ | refine rn_seq ?_ | refine rn_plain ?_ | refine rn_block ?_ | refine rn_inBlock ?_ | refine rn_skip ?_ | refine rn_true rfl ?_ | refine rn_false rfl ?_ | refine rn_exit rfl ?_ | refine pl_not rfl rfl ?_)
    refine rn_draw (fun w' => Keep [] w8 w') [] hMix ?_
    refine dr_val 0 _ rfl (by decide +kernel) rfl rfl (fun w' hk => val_load1 hT rfl rfl rfl ((hk.blk hf8.boxm (by simp)).cell rfl)) hk0 ?_
    refine dr_pure 1 hT rfl (by decide +kernel) rfl rfl rfl ?_
    refine dr_val 2 (.int .i64 u.a) rfl (by decide +kernel) rfl rfl (fun w' hk => val_load1 hT rfl rfl rfl ((hk.blk hy8 (by simp)).cell rfl)) hk0 ?_
    refine dr_val 4 _ rfl (by decide +kernel) rfl rfl (fun w' hk => val_load1 hT rfl rfl rfl ((hk.blk hf8.boxn (by simp)).cell rfl)) hk0 ?_
    refine dr_pure 5 hT rfl (by decide +kernel) rfl rfl rfl ?_
    refine dr_val 6 (.int .i64 u.a) rfl (by decide +kernel) rfl rfl (fun w' hk => val_load1 hT rfl rfl rfl ((hk.blk hy8 (by simp)).cell rfl)) hk0 ?_
    refine dr_op 3 rfl (by decide +kernel) rfl rfl (opTo_call rfl rfl rfl rfl (by decide +kernel) ((load_ret (hP8.st.keep0 hk0).mem u.a).mono ?_))
    rintro v w9 ⟨rfl, rfl⟩
    refine ⟨fun _ => hk0, ?_⟩
    refine dr_op 7 rfl (by decide +kernel) rfl rfl (opTo_call rfl rfl rfl rfl (by decide +kernel) ((word_ret ((hP8.fx.wds hP8.st.mem.wl).keep0 hk0) u.a).mono ?_))
    rintro v w9 ⟨rfl, rfl⟩
    refine ⟨fun _ => hk0, ?_⟩
    refine dr_any 8 (.bool false) rfl (by decide +kernel) rfl rfl (fun w' => val_int .i64 _ _ _ rfl rfl rfl (by simp [intOp]) w') ?_
    refine dr_done (by decide +kernel) ?_
    repeat (first | refine pl_pure hT rfl rfl rfl ?_ | refine pl_nil ?_ | refine rn_inBlock ?_ | refine rn_skip ?_ | refine rn_true rfl ?_ | refine rn_false rfl ?_ | refine rn_exit rfl ?_)
    refine rn_sub ?_ (hJ1 _ _ ⟨s, m, S, W, D, wv, P, X, rfl, hP8.ext hk0⟩)
    exact ⟨rfl, rfl, rfl, rfl, rfl, rfl, rfl, rfl, trivial⟩
  intro hJ2
  refine rn_seq ?_
  refine rn_plain ?_
  refine pl_pure hT rfl rfl rfl ?_
  refine pl_val (.int .i64 u.d) rfl rfl (val_load1 hT rfl rfl rfl (hy7.cell rfl)) ?_
  refine pl_nil ?_
  refine rn_block ?_
  refine rn_seq ?_
  refine rn_plain ?_
  by_cases hd0 : u.d = 0
  · refine pl_val (.bool true) rfl rfl (val_int .i64 _ 0 _ rfl rfl rfl (by simp [intOp, hd0]) w7) ?_
    refine pl_pure hT rfl rfl rfl ?_
    refine pl_nil ?_
    refine rn_true rfl ?_
    clear hJ1
    refine rn_seq ?_
    refine rn_with (fun σ w' => w' = w7 ∧ σ = [(0, lv), (3, .pointer (some ⟨c.bd, 0, none⟩)), (4, .pointer (some ⟨c.bv, 0, none⟩)), (5, .pointer (some ⟨c.bm, 0, none⟩)), (6, .pointer (some ⟨c.bn, 0, none⟩)), (7, .pointer (some ⟨c.bt, 0, none⟩)), (8, .func (.func 18) #[] #[.pointer (some ⟨c.bn, 0, none⟩), .pointer (some ⟨c.bv, 0, none⟩), .pointer (some ⟨c.bt, 0, none⟩), .pointer (some ⟨c.bd, 0, none⟩), .pointer (some ⟨c.bm, 0, none⟩)]), (9, .int .i64 (j : Nat)), (10, .pointer (some ⟨y, 0, none⟩)), (11, .bool (hasM u.a))]) ?_ ?_
    · rintro σ w8 ⟨rfl, rfl⟩
      repeat (first | refine pl_pure hT rfl rfl rfl ?_ | refine pl_nil ?_ | refine rn_seq ?_ | refine rn_plain ?_ | refine rn_block ?_ | refine rn_inBlock ?_ | refine rn_skip ?_ | refine rn_true rfl ?_ | refine rn_false rfl ?_ | refine rn_exit rfl ?_ | refine pl_not rfl rfl ?_)
      refine pl_val _ rfl rfl (val_load1 hT rfl rfl rfl (hP7.fx.boxm.cell rfl)) ?_
      repeat (first | refine pl_pure hT rfl rfl rfl ?_ | refine pl_nil ?_ | refine rn_seq ?_ | refine rn_plain ?_ | refine rn_block ?_ | refine rn_inBlock ?_ | refine rn_skip ?_ | refine rn_true rfl ?_ | refine rn_false rfl ?_ | refine rn_exit rfl ?_ | refine pl_not rfl rfl ?_)
      refine pl_val (.int .i64 u.a) rfl rfl (val_load1 hT rfl rfl rfl (hy7.cell rfl)) ?_
      repeat (first | refine pl_pure hT rfl rfl rfl ?_ | refine pl_nil ?_ | refine rn_seq ?_ | refine rn_plain ?_ | refine rn_block ?_ | refine rn_inBlock ?_ | refine rn_skip ?_ | refine rn_true rfl ?_ | refine rn_false rfl ?_ | refine rn_exit rfl ?_ | refine pl_not rfl rfl ?_)
      refine pl_val (.int .i64 u.x) rfl rfl (val_load1 hT rfl rfl rfl (hy7.cell rfl)) ?_
      refine pl_op rfl rfl (opTo_call rfl rfl rfl rfl (by decide +kernel) ((puts_ret hP7.st u.a u.x).mono ?_))
      rintro v w9 ⟨rfl, h9, hk9⟩
      repeat (first | refine pl_pure hT rfl rfl rfl ?_ | refine pl_nil ?_ | refine rn_seq ?_ | refine rn_plain ?_ | refine rn_block ?_ | refine rn_inBlock ?_ | refine rn_skip ?_ | refine rn_true rfl ?_ | refine rn_false rfl ?_ | refine rn_exit rfl ?_ | refine pl_not rfl rfl ?_)
      refine pl_val (.bool false) rfl rfl (val_neBool _ _ _ (by decide +kernel) rfl rfl rfl (by simp) w9) ?_
      repeat (first | refine pl_pure hT rfl rfl rfl ?_ | refine pl_nil ?_ | refine rn_seq ?_ | refine rn_plain ?_ | refine rn_block ?_ | refine rn_inBlock ?_ | refine rn_skip ?_ | refine rn_true rfl ?_ | refine rn_false rfl ?_ | refine rn_exit rfl ?_ | refine pl_not rfl rfl ?_)
      have hoM := Off.one hP7.st.mem.blk
      have hf9 := hP7.fx.keep hk9 hoM (by decide)
      have hy9 := hk9.typ hoM hy7 (by decide)
      have hmw : w.heap.size ≤ m := Nat.le_trans hlo.1 hP7.st.hm
      have hkw9 : Keep [] w w9 := hP7.keep.trans hk9 fun k hk => .inr (by simp at hk; omega)
      have hWl := hP7.st.mem.wl
      have hDl := hP7.st.mem.dl
      have hk0 : Keep [] w9 w9.drew := (Keep.refl _ _).drew
      cases hb : hasM u.a with
      | false =>
        have e1 : putW W u.a u.x = W := by simp [putW, hb]
        have e2 : putD W D u.a u.x = D := by simp [putD, hb]
        rw [e1, e2] at h9
        refine rn_draw (fun w' => Keep [] w9 w') [] hMix ?_
        refine dr_pure 0 hT rfl (by decide +kernel) rfl rfl rfl ?_
        refine dr_pure 1 hT rfl (by decide +kernel) rfl rfl rfl ?_
        refine dr_not 2 rfl (by decide +kernel) rfl rfl ?_
        refine dr_not 3 rfl (by decide +kernel) rfl rfl ?_
        refine dr_not 4 rfl (by decide +kernel) rfl rfl ?_
        refine dr_not 5 rfl (by decide +kernel) rfl rfl ?_
        refine dr_not 6 rfl (by decide +kernel) rfl rfl ?_
        refine dr_not 7 rfl (by decide +kernel) rfl rfl ?_
        refine dr_not 8 rfl (by decide +kernel) rfl rfl ?_
        refine dr_not 9 rfl (by decide +kernel) rfl rfl ?_
        refine dr_pure 10 hT rfl (by decide +kernel) rfl rfl rfl ?_
        refine dr_done (by decide +kernel) ?_
        repeat (first | refine pl_pure hT rfl rfl rfl ?_ | refine pl_nil ?_ | refine rn_inBlock ?_ | refine rn_skip ?_ | refine rn_true rfl ?_ | refine rn_false rfl ?_ | refine rn_exit rfl ?_)
        refine rn_sub ?_ (hJ2 _ _ ⟨s, m, S, W, D, wv, P, X, rfl, ⟨hkw9.tr0 hk0, h9.keep0 hk0, hf9.keep0 hk0, hP7.fP, hP7.fX, hP7.read, by have := hP7.gen; omega⟩, hk0.blk hy9 (by simp)⟩)
        exact ⟨rfl, rfl, rfl, rfl, rfl, rfl, rfl, rfl, rfl, trivial⟩
      | true =>
        have hi : 0 ≤ u.a ∧ u.a < 112 := by simpa [hasM] using hb
        have hI : u.a = ((u.a.toNat : Nat) : Int) := by omega
        have hcell := ints_at (W := W) (show u.a.toNat < W.length by omega)
        refine rn_draw (fun w' => Keep [] w9 w') [] hMix ?_
        refine dr_pure 0 hT rfl (by decide +kernel) rfl rfl rfl ?_
        refine dr_pure 1 hT rfl (by decide +kernel) rfl rfl rfl ?_
        refine dr_val 2 _ rfl (by decide +kernel) rfl rfl (fun w' hk => val_load1 hT rfl rfl rfl ((hk.blk hf9.boxn (by simp)).cell rfl)) hk0 ?_
        refine dr_pure 3 hT rfl (by decide +kernel) rfl rfl rfl ?_
        refine dr_val 4 (.int .i64 u.a) rfl (by decide +kernel) rfl rfl (fun w' hk => val_load1 hT rfl rfl rfl ((hk.blk hy9 (by simp)).cell rfl)) hk0 ?_
        refine dr_any 5 _ rfl (by decide +kernel) rfl rfl (fun w' => val_index u.a.toNat hT rfl rfl rfl rfl hI (by omega) w') ?_
        refine dr_val 6 (.int .i64 (W.getD u.a.toNat 0)) rfl (by decide +kernel) rfl rfl (fun w' hk => val_load1 hT rfl rfl rfl ((hk.blk hf9.now (by simp)).cell hcell)) hk0 ?_
        refine dr_pure 7 hT rfl (by decide +kernel) rfl rfl rfl ?_
        refine dr_val 8 (.int .i64 u.x) rfl (by decide +kernel) rfl rfl (fun w' hk => val_load1 hT rfl rfl rfl ((hk.blk hy9 (by simp)).cell rfl)) hk0 ?_
        refine dr_any 9 (.bool (W.getD u.a.toNat 0 != u.x)) rfl (by decide +kernel) rfl rfl (fun w' => val_int .i64 _ _ _ rfl rfl rfl rfl w') ?_
        refine dr_pure 10 hT rfl (by decide +kernel) rfl rfl rfl ?_
        refine dr_done (by decide +kernel) ?_
        have h10 := h9.keep0 hk0
        have hf10 := hf9.keep0 hk0
        have hy10 := hk0.blk hy9 (by simp)
        have hkw10 := hkw9.tr0 hk0
        generalize w9.drew = w10 at *
        clear h9 hf9 hy9 hkw9 hk0
        by_cases hx : W.getD u.a.toNat 0 = u.x
        · rw [show (W.getD u.a.toNat 0 != u.x) = false by rw [hx]; simp]
          have e1 : putW W u.a u.x = W := by rw [putW, if_pos hb, set_same (by omega) hx]
          have e2 : putD W D u.a u.x = D := by rw [putD, if_pos hb, if_pos hx]
          rw [e1, e2] at h10
          repeat (first | refine pl_pure hT rfl rfl rfl ?_ | refine pl_nil ?_ | refine rn_inBlock ?_ | refine rn_skip ?_ | refine rn_true rfl ?_ | refine rn_false rfl ?_ | refine rn_exit rfl ?_)
          refine rn_sub ?_ (hJ2 _ _ ⟨s, m, S, W, D, wv, P, X, rfl, ⟨hkw10, h10, hf10, hP7.fP, hP7.fX, hP7.read, by have := hP7.gen; omega⟩, hy10⟩)
          exact ⟨rfl, rfl, rfl, rfl, rfl, rfl, rfl, rfl, rfl, trivial⟩
        · rw [show (W.getD u.a.toNat 0 != u.x) = true by simpa using hx]
          have e1 : putW W u.a u.x = W.set u.a.toNat u.x := by rw [putW, if_pos hb]
          have e2 : putD W D u.a u.x = D.set (u.a.toNat / 8) true := by rw [putD, if_pos hb, if_neg hx]
          rw [e1, e2] at h10
          repeat (first | refine pl_pure hT rfl rfl rfl ?_ | refine pl_nil ?_ | refine rn_seq ?_ | refine rn_plain ?_ | refine rn_block ?_ | refine rn_inBlock ?_ | refine rn_skip ?_ | refine rn_true rfl ?_ | refine rn_false rfl ?_ | refine rn_exit rfl ?_ | refine pl_not rfl rfl ?_)
          refine pl_val _ rfl rfl (val_load1 hT rfl rfl rfl (hf10.boxn.cell rfl)) ?_
          repeat (first | refine pl_pure hT rfl rfl rfl ?_ | refine pl_nil ?_ | refine rn_seq ?_ | refine rn_plain ?_ | refine rn_block ?_ | refine rn_inBlock ?_ | refine rn_skip ?_ | refine rn_true rfl ?_ | refine rn_false rfl ?_ | refine rn_exit rfl ?_ | refine pl_not rfl rfl ?_)
          refine pl_val (.int .i64 u.a) rfl rfl (val_load1 hT rfl rfl rfl (hy10.cell rfl)) ?_
          repeat (first | refine pl_pure hT rfl rfl rfl ?_ | refine pl_nil ?_ | refine rn_seq ?_ | refine rn_plain ?_ | refine rn_block ?_ | refine rn_inBlock ?_ | refine rn_skip ?_ | refine rn_true rfl ?_ | refine rn_false rfl ?_ | refine rn_exit rfl ?_ | refine pl_not rfl rfl ?_)
          refine pl_val (.int .i64 u.x) rfl rfl (val_load1 hT rfl rfl rfl (hy10.cell rfl)) ?_
          refine pl_val _ rfl rfl (val_index u.a.toNat hT rfl rfl rfl rfl hI (by omega) w10) ?_
          refine pl_op rfl rfl (opTo_store [.int .i64 u.x] rfl rfl rfl rfl (by kernel_rfl) hf10.now (by rw [ints_length, hWl]; simp; omega) (by simp; rfl) ?_)
          rw [show 0 + u.a.toNat * 1 = u.a.toNat by omega, splice_ints _ _ _ (by omega)]
          have hk11 := keep_row (w := w10) (b := c.g) (ints (W.set u.a.toNat u.x)).toArray
          have ho11 := Off.one hf10.now
          have hf11 := hf10.setNow (W.set u.a.toNat u.x)
          have h11 := h10.typ hk11 ho11 (by decide) (by decide) (by decide)
          have hy11 := hk11.typ ho11 hy10 (by decide)
          have hkw11 := hkw10.setRow c.g (ints (W.set u.a.toNat u.x)).toArray (.inr hlo.2.2.2.2)
          generalize (w10.setRow c.g (ints (W.set u.a.toNat u.x)).toArray) = w11 at *
          clear h10 hf10 hy10 hkw10 hk11 ho11
          repeat (first | refine pl_pure hT rfl rfl rfl ?_ | refine pl_nil ?_ | refine rn_seq ?_ | refine rn_plain ?_ | refine rn_block ?_ | refine rn_inBlock ?_ | refine rn_skip ?_ | refine rn_true rfl ?_ | refine rn_false rfl ?_ | refine rn_exit rfl ?_ | refine pl_not rfl rfl ?_)
          refine pl_val (.int .i64 u.a) rfl rfl (val_load1 hT rfl rfl rfl (hy11.cell rfl)) ?_
          refine pl_val (.int .i64 ((u.a.toNat / 8 : Nat) : Int)) rfl rfl (val_quo .i64 u.a 8 _ rfl rfl rfl (by decide) (by rw [hI]; exact quo8 u.a.toNat (by omega)) w11) ?_
          refine pl_val _ rfl rfl (val_indexArr (u.a.toNat / 8) hT rfl rfl rfl rfl rfl (by omega) w11) ?_
          refine pl_op rfl rfl (opTo_store [.bool true] rfl rfl rfl rfl (by kernel_rfl) hf11.dirt (by rw [bools_length, hDl]; simp; omega) (by simp; rfl) ?_)
          rw [show 0 + u.a.toNat / 8 * 1 = u.a.toNat / 8 by omega, splice_bools _ _ _ (by omega)]
          have hk12 := keep_row (w := w11) (b := c.bt) (bools (D.set (u.a.toNat / 8) true)).toArray
          have ho12 := Off.one hf11.dirt
          have hf12 := hf11.setDirt (D.set (u.a.toNat / 8) true)
          have h12 := h11.typ hk12 ho12 (by decide) (by decide) (by decide)
          have hy12 := hk12.typ ho12 hy11 (by decide)
          have hkw12 := hkw11.setRow c.bt (bools (D.set (u.a.toNat / 8) true)).toArray (.inr hlo.2.2.2.1)
          generalize (w11.setRow c.bt (bools (D.set (u.a.toNat / 8) true)).toArray) = w12 at *
          repeat (first | refine pl_pure hT rfl rfl rfl ?_ | refine pl_nil ?_ | refine rn_inBlock ?_ | refine rn_skip ?_ | refine rn_true rfl ?_ | refine rn_false rfl ?_ | refine rn_exit rfl ?_)
          refine rn_sub ?_ (hJ2 _ _ ⟨s, m, S, _, _, wv, P, X, rfl, ⟨hkw12, h12, hf12, hP7.fP, hP7.fX, hP7.read, by have := hP7.gen; omega⟩, hy12⟩)
          exact ⟨rfl, rfl, rfl, rfl, rfl, rfl, rfl, rfl, rfl, trivial⟩
    intro hjoin
    refine rn_plain ?_
    refine pl_pure hT rfl rfl rfl ?_
    refine pl_val (.int .i64 u.a) rfl rfl (val_load1 hT rfl rfl rfl (hy7.cell rfl)) ?_
    by_cases hge0 : 0 ≤ u.a
    · refine pl_val (.bool true) rfl rfl (val_int .i64 _ 0 _ rfl rfl rfl (by simp [intOp, hge0]) w7) ?_
      repeat (first | refine pl_pure hT rfl rfl rfl ?_)
      refine pl_val (.int .i64 u.a) rfl rfl (val_load1 hT rfl rfl rfl (hy7.cell rfl)) ?_
      refine pl_val _ rfl rfl (val_load1 hT rfl rfl rfl (hP7.fx.boxn.cell rfl)) ?_
      repeat (first | refine pl_pure hT rfl rfl rfl ?_)
      refine pl_val (.bool (decide (u.a < 112))) rfl rfl (val_int .i64 _ 112 _ rfl rfl rfl (by simp [intOp]) w7) ?_
      repeat (first | refine pl_pure hT rfl rfl rfl ?_ | refine pl_nil ?_)
      refine rn_sub ?_ (hjoin _ w7 ⟨rfl, rfl⟩)
      rw [show hasM u.a = decide (u.a < 112) by simp [hasM, hge0]]
      exact ⟨rfl, rfl, rfl, rfl, rfl, rfl, rfl, rfl, rfl, rfl, trivial⟩
    · refine pl_val (.bool false) rfl rfl (val_int .i64 _ 0 _ rfl rfl rfl (by simp [intOp, hge0]) w7) ?_
      repeat (first | refine pl_pure hT rfl rfl rfl ?_ | refine pl_nil ?_ | refine pl_not rfl rfl ?_)
      refine rn_sub ?_ (hjoin _ w7 ⟨rfl, rfl⟩)
      rw [show hasM u.a = false by simp [hasM, hge0]]
      exact ⟨rfl, rfl, rfl, rfl, rfl, rfl, rfl, rfl, rfl, rfl, trivial⟩
  refine pl_val (.bool false) rfl rfl (val_int .i64 _ 0 _ rfl rfl rfl (by simp [intOp, hd0]) w7) ?_
  refine pl_pure hT rfl rfl rfl ?_
  refine pl_nil ?_
  refine rn_false rfl ?_
  refine rn_seq ?_
  refine rn_with (fun σ w' => w' = w7 ∧ σ = [(0, lv), (3, .pointer (some ⟨c.bd, 0, none⟩)), (4, .pointer (some ⟨c.bv, 0, none⟩)), (5, .pointer (some ⟨c.bm, 0, none⟩)), (6, .pointer (some ⟨c.bn, 0, none⟩)), (7, .pointer (some ⟨c.bt, 0, none⟩)), (8, .func (.func 18) #[] #[.pointer (some ⟨c.bn, 0, none⟩), .pointer (some ⟨c.bv, 0, none⟩), .pointer (some ⟨c.bt, 0, none⟩), .pointer (some ⟨c.bd, 0, none⟩), .pointer (some ⟨c.bm, 0, none⟩)]), (9, .int .i64 (j : Nat)), (10, .pointer (some ⟨y, 0, none⟩)), (86, .bool (decide (u.d = 1 ∨ u.d = 2)))]) ?_ ?_
  · rintro σ w8 ⟨rfl, rfl⟩
    by_cases h12 : u.d = 1 ∨ u.d = 2
    case neg =>
      rw [decide_eq_false h12]
      repeat (first | refine pl_pure hT rfl rfl rfl ?_ | refine pl_nil ?_ | refine rn_inBlock ?_ | refine rn_skip ?_ | refine rn_true rfl ?_ | refine rn_false rfl ?_ | refine rn_exit rfl ?_)
      refine rn_sub ?_ (hJ2 _ _ ⟨s, m, S, W, D, wv, P, X, rfl, hP7.up (Nat.le_succ j), hy7⟩)
      exact ⟨rfl, rfl, rfl, rfl, rfl, rfl, rfl, rfl, rfl, trivial⟩
    rw [decide_eq_true h12]
    repeat (first | refine pl_pure hT rfl rfl rfl ?_ | refine pl_nil ?_ | refine rn_seq ?_ | refine rn_plain ?_ | refine rn_block ?_ | refine rn_inBlock ?_ | refine rn_skip ?_ | refine rn_true rfl ?_ | refine rn_false rfl ?_ | refine rn_exit rfl ?_ | refine pl_not rfl rfl ?_)
    refine pl_val _ rfl rfl (val_load1 hT rfl rfl rfl (hP7.fx.boxm.cell rfl)) ?_
    refine pl_op rfl rfl (opTo_call rfl rfl rfl rfl (by decide +kernel) ((dirty_ret hP7.st.mem).mono ?_))
    rintro gv w9 ⟨hp9, hk9⟩
    have hP9 := hP7.ext hk9
    have hy9 := hk9.blk hy7 (by simp)
    have hWl := hP7.st.mem.wl
    have hDl := hP7.st.mem.dl
    clear hP7 hy7 hk9
    repeat (first | refine pl_pure hT rfl rfl rfl ?_ | refine pl_nil ?_ | refine rn_seq ?_ | refine rn_plain ?_ | refine rn_block ?_ | refine rn_inBlock ?_ | refine rn_skip ?_ | refine rn_true rfl ?_ | refine rn_false rfl ?_ | refine rn_exit rfl ?_ | refine pl_not rfl rfl ?_)
    refine rn_ind (fun q σ w' => ∃ p rv, q = 14 - p ∧ p ≤ 14 ∧ σ = [(0, lv), (3, .pointer (some ⟨c.bd, 0, none⟩)), (4, .pointer (some ⟨c.bv, 0, none⟩)), (5, .pointer (some ⟨c.bm, 0, none⟩)), (6, .pointer (some ⟨c.bn, 0, none⟩)), (7, .pointer (some ⟨c.bt, 0, none⟩)), (8, .func (.func 18) #[] #[.pointer (some ⟨c.bn, 0, none⟩), .pointer (some ⟨c.bv, 0, none⟩), .pointer (some ⟨c.bt, 0, none⟩), .pointer (some ⟨c.bd, 0, none⟩), .pointer (some ⟨c.bm, 0, none⟩)]), (9, .int .i64 (j : Nat)), (10, .pointer (some ⟨y, 0, none⟩)), (12, rv), (13, gv), (14, .int .i64 (p : Nat))] ∧ Keep [] w9 w' ∧ Own w' w9.heap.size 58 9 rv (dirtyTo W D p).length (pcells (dirtyTo W D p)))
      (14 - 0) _ ?_ ⟨0, _, rfl, by decide, rfl, Keep.refl _ _, Own.nil _ _ _ _⟩ ?_
    · exact ⟨rfl, rfl, rfl, rfl, rfl, rfl, rfl, rfl, rfl, rfl, rfl, rfl, trivial⟩
    rintro q σ w10 ih ⟨p, rv, hq, hp, rfl, hk10, ho10⟩
    repeat (first | refine pl_pure hT rfl rfl rfl ?_ | refine pl_nil ?_ | refine rn_seq ?_ | refine rn_plain ?_ | refine rn_block ?_ | refine rn_inBlock ?_ | refine rn_skip ?_ | refine rn_true rfl ?_ | refine rn_false rfl ?_ | refine rn_exit rfl ?_ | refine pl_not rfl rfl ?_)
    rcases Nat.lt_or_ge p 14 with hlt2 | hge2
    · refine pl_val (.bool true) rfl rfl (val_int .i64 _ _ _ rfl rfl rfl (by simp [intOp]; omega) w10) ?_
      have hf10 := hP9.fx.keep0 hk10
      repeat (first | refine pl_pure hT rfl rfl rfl ?_ | refine pl_nil ?_ | refine rn_seq ?_ | refine rn_plain ?_ | refine rn_block ?_ | refine rn_inBlock ?_ | refine rn_skip ?_ | refine rn_true rfl ?_ | refine rn_false rfl ?_ | refine rn_exit rfl ?_ | refine pl_not rfl rfl ?_)
      refine pl_val _ rfl rfl (val_indexArr p hT rfl rfl rfl rfl rfl hlt2 w10) ?_
      refine pl_val (.bool (D.getD p false)) rfl rfl (val_load1 hT rfl rfl rfl (hf10.dirt.cell (bools_at (by omega)))) ?_
      cases hb : D.getD p false with
      | false =>
        repeat (first | refine pl_pure hT rfl rfl rfl ?_ | refine pl_nil ?_ | refine rn_seq ?_ | refine rn_plain ?_ | refine rn_block ?_ | refine rn_inBlock ?_ | refine rn_skip ?_ | refine rn_true rfl ?_ | refine rn_false rfl ?_ | refine rn_exit rfl ?_ | refine pl_not rfl rfl ?_)
        refine pl_val (.int .i64 ((p + 1 : Nat) : Int)) rfl rfl (val_int .i64 p 1 _ rfl rfl rfl (by simp only [intOp]; rw [wrap_i64 (by omega) (by omega)]; rfl) w10) ?_
        repeat (first | refine pl_pure hT rfl rfl rfl ?_ | refine pl_nil ?_ | refine rn_seq ?_ | refine rn_plain ?_ | refine rn_block ?_ | refine rn_inBlock ?_ | refine rn_skip ?_ | refine rn_true rfl ?_ | refine rn_false rfl ?_ | refine rn_exit rfl ?_ | refine pl_not rfl rfl ?_)
        refine rn_sub ?_ (ih (14 - (p + 1)) _ w10 (by omega) ⟨p + 1, rv, rfl, hlt2, rfl, hk10, by rw [dirtyTo_succ, hb]; exact ho10⟩)
        exact ⟨rfl, rfl, rfl, rfl, rfl, rfl, rfl, rfl, rfl, rfl, rfl, rfl, trivial⟩
      | true =>
        repeat (first | refine pl_pure hT rfl rfl rfl ?_ | refine pl_nil ?_ | refine rn_seq ?_ | refine rn_plain ?_ | refine rn_block ?_ | refine rn_inBlock ?_ | refine rn_skip ?_ | refine rn_true rfl ?_ | refine rn_false rfl ?_ | refine rn_exit rfl ?_ | refine pl_not rfl rfl ?_)
        refine pl_val _ rfl rfl (val_build _ rfl rfl built_words0 w10) ?_
        refine pl_op rfl rfl (opTo_alloc _ rfl zero_words ?_)
        have hk11 : Keep [] w10 (w10.alloc (.cells (ints (List.replicate 8 0)).toArray 37)) := (Keep.refl _ _).alloc _
        have hz11 := Blk.new w10 (ints (List.replicate 8 0)) 37
        generalize (w10.alloc (.cells (ints (List.replicate 8 0)).toArray 37)) = w11 at *
        refine pl_op rfl rfl (opTo_store (ints (List.replicate 8 0)) rfl rfl rfl rfl (by kernel_rfl) hz11 (by simp [ints]) (ints_one _) ?_)
        rw [splice_all (by rfl)]
        have hk12 := hk11.setRow w10.heap.size (ints (List.replicate 8 0)).toArray (.inr (Nat.le_refl _))
        have hz12 := hz11.set (ints (List.replicate 8 0))
        generalize (w11.setRow w10.heap.size (ints (List.replicate 8 0)).toArray) = w12 at *
        obtain ⟨z, hz⟩ : ∃ z, z = w10.heap.size := ⟨_, rfl⟩
        have hzn : w10.heap.size ≤ z := by omega
        rw [← hz] at hz12 ⊢
        clear hk11 hz11
        have h8 := page_length hWl hlt2
        repeat (first | refine pl_pure hT rfl rfl rfl ?_ | refine pl_nil ?_ | refine rn_seq ?_ | refine rn_plain ?_ | refine rn_block ?_ | refine rn_inBlock ?_ | refine rn_skip ?_ | refine rn_true rfl ?_ | refine rn_false rfl ?_ | refine rn_exit rfl ?_ | refine pl_not rfl rfl ?_)
        refine rn_ind (fun q σ w' => ∃ k, q = 8 - k ∧ k ≤ 8 ∧ σ = [(0, lv), (3, .pointer (some ⟨c.bd, 0, none⟩)), (4, .pointer (some ⟨c.bv, 0, none⟩)), (5, .pointer (some ⟨c.bm, 0, none⟩)), (6, .pointer (some ⟨c.bn, 0, none⟩)), (7, .pointer (some ⟨c.bt, 0, none⟩)), (8, .func (.func 18) #[] #[.pointer (some ⟨c.bn, 0, none⟩), .pointer (some ⟨c.bv, 0, none⟩), .pointer (some ⟨c.bt, 0, none⟩), .pointer (some ⟨c.bd, 0, none⟩), .pointer (some ⟨c.bm, 0, none⟩)]), (9, .int .i64 (j : Nat)), (10, .pointer (some ⟨y, 0, none⟩)), (12, rv), (13, gv), (14, .int .i64 (p : Nat)), (15, .pointer (some ⟨z, 0, none⟩)), (16, .int .i64 (k : Nat))] ∧ Keep [] w10 w' ∧ Blk w' z (ints ((page W p).take k ++ (List.replicate 8 0).drop k)) 37)
          (8 - 0) _ ?_ ⟨0, rfl, by decide, rfl, hk12, hz12⟩ ?_
        · exact ⟨rfl, rfl, rfl, rfl, rfl, rfl, rfl, rfl, rfl, rfl, rfl, rfl, rfl, rfl, trivial⟩
        clear hk12 hz12
        rintro q' σ w13 ih' ⟨k, hq', hk, rfl, hk13, hz13⟩
        repeat (first | refine pl_pure hT rfl rfl rfl ?_ | refine pl_nil ?_ | refine rn_seq ?_ | refine rn_plain ?_ | refine rn_block ?_ | refine rn_inBlock ?_ | refine rn_skip ?_ | refine rn_true rfl ?_ | refine rn_false rfl ?_ | refine rn_exit rfl ?_ | refine pl_not rfl rfl ?_)
        rcases Nat.lt_or_ge k 8 with hlt3 | hge3
        · refine pl_val (.bool true) rfl rfl (val_int .i64 _ _ _ rfl rfl rfl (by simp [intOp]; omega) w13) ?_
          have hf13 := hf10.keep0 hk13
          repeat (first | refine pl_pure hT rfl rfl rfl ?_ | refine pl_nil ?_ | refine rn_seq ?_ | refine rn_plain ?_ | refine rn_block ?_ | refine rn_inBlock ?_ | refine rn_skip ?_ | refine rn_true rfl ?_ | refine rn_false rfl ?_ | refine rn_exit rfl ?_ | refine pl_not rfl rfl ?_)
          refine pl_val _ rfl rfl (val_load1 hT rfl rfl rfl (hf13.boxn.cell rfl)) ?_
          repeat (first | refine pl_pure hT rfl rfl rfl ?_ | refine pl_nil ?_ | refine rn_seq ?_ | refine rn_plain ?_ | refine rn_block ?_ | refine rn_inBlock ?_ | refine rn_skip ?_ | refine rn_true rfl ?_ | refine rn_false rfl ?_ | refine rn_exit rfl ?_ | refine pl_not rfl rfl ?_)
          refine pl_val (.int .i64 ((p * 8 : Nat) : Int)) rfl rfl (val_int .i64 p 8 _ rfl rfl rfl (by simp only [intOp]; rw [wrap_i64 (by omega) (by omega)]; simp) w13) ?_
          repeat (first | refine pl_pure hT rfl rfl rfl ?_ | refine pl_nil ?_ | refine rn_seq ?_ | refine rn_plain ?_ | refine rn_block ?_ | refine rn_inBlock ?_ | refine rn_skip ?_ | refine rn_true rfl ?_ | refine rn_false rfl ?_ | refine rn_exit rfl ?_ | refine pl_not rfl rfl ?_)
          refine pl_val (.int .i64 ((p * 8 + k : Nat) : Int)) rfl rfl (val_int .i64 ((p * 8 : Nat) : Int) k _ rfl rfl rfl (by simp only [intOp]; rw [wrap_i64 (by omega) (by omega)]; simp) w13) ?_
          refine pl_val _ rfl rfl (val_index (p * 8 + k) hT rfl rfl rfl rfl rfl (by omega) w13) ?_
          refine pl_val _ rfl rfl (val_load1 hT rfl rfl rfl (hf13.now.cell (ints_at (by omega)))) ?_
          refine pl_val _ rfl rfl (val_indexArr k hT rfl rfl rfl rfl rfl hlt3 w13) ?_
          have hlen : ((page W p).take k ++ (List.replicate 8 (0 : Int)).drop k).length = 8 := by simp [h8]; omega
          refine pl_op rfl rfl (opTo_store [.int .i64 (W.getD (p * 8 + k) 0)] rfl rfl rfl rfl (by kernel_rfl) hz13 (by rw [ints_length, hlen]; simp; omega) (by simp; rfl) ?_)
          have hval : (page W p)[k]? = some (W.getD (p * 8 + k) 0) := by
            rw [page_at hlt3, List.getD_eq_getElem?_getD, List.getElem?_eq_getElem (show p * 8 + k < W.length by omega)]
            rfl
          rw [show 0 + k * 1 = k by omega, splice_ints _ _ _ (by omega), upto_set hval (by simp; omega)]
          have hk14 := hk13.setRow z (ints ((page W p).take (k + 1) ++ (List.replicate 8 0).drop (k + 1))).toArray (.inr hzn)
          have hz14 := hz13.set (ints ((page W p).take (k + 1) ++ (List.replicate 8 0).drop (k + 1)))
          generalize (w13.setRow z (ints ((page W p).take (k + 1) ++ (List.replicate 8 0).drop (k + 1))).toArray) = w14 at *
          repeat (first | refine pl_pure hT rfl rfl rfl ?_ | refine pl_nil ?_ | refine rn_seq ?_ | refine rn_plain ?_ | refine rn_block ?_ | refine rn_inBlock ?_ | refine rn_skip ?_ | refine rn_true rfl ?_ | refine rn_false rfl ?_ | refine rn_exit rfl ?_ | refine pl_not rfl rfl ?_)
          refine pl_val (.int .i64 ((k + 1 : Nat) : Int)) rfl rfl (val_int .i64 k 1 _ rfl rfl rfl (by simp only [intOp]; rw [wrap_i64 (by omega) (by omega)]; rfl) w14) ?_
          repeat (first | refine pl_pure hT rfl rfl rfl ?_ | refine pl_nil ?_ | refine rn_seq ?_ | refine rn_plain ?_ | refine rn_block ?_ | refine rn_inBlock ?_ | refine rn_skip ?_ | refine rn_true rfl ?_ | refine rn_false rfl ?_ | refine rn_exit rfl ?_ | refine pl_not rfl rfl ?_)
          refine rn_sub ?_ (ih' (8 - (k + 1)) _ w14 (by omega) ⟨k + 1, rfl, hlt3, rfl, hk14, hz14⟩)
          exact ⟨rfl, rfl, rfl, rfl, rfl, rfl, rfl, rfl, rfl, rfl, rfl, rfl, rfl, rfl, trivial⟩
        refine pl_val (.bool false) rfl rfl (val_int .i64 _ _ _ rfl rfl rfl (by simp [intOp]; omega) w13) ?_
        have hk8 : k = 8 := by omega
        subst hk8
        rw [List.take_of_length_le (by omega), List.drop_eq_nil_of_le (by simp), List.append_nil] at hz13
        clear ih'
        repeat (first | refine pl_pure hT rfl rfl rfl ?_ | refine pl_nil ?_ | refine rn_seq ?_ | refine rn_plain ?_ | refine rn_block ?_ | refine rn_inBlock ?_ | refine rn_skip ?_ | refine rn_true rfl ?_ | refine rn_false rfl ?_ | refine rn_exit rfl ?_ | refine pl_not rfl rfl ?_)
        refine pl_val (.agg (ints (page W p)).toArray) rfl rfl (val_load _ hT rfl rfl (by rw [ints_length, h8]; rfl) (hz13.range (by simp))) ?_
        refine pl_val _ rfl rfl (val_build _ rfl rfl (built_rpg (p : Nat) h8) w13) ?_
        refine pl_op rfl rfl (opTo_buildSlice _ _ rfl rfl (slice_rpg (p : Nat) h8) ?_)
        have hk15 := hk13.alloc (.cells (pcell ((p : Nat), page W p)).toArray 58)
        have hx15 := Blk.new w13 (pcell ((p : Nat), page W p)) 58
        generalize (w13.alloc (.cells (pcell ((p : Nat), page W p)).toArray 58)) = w15 at *
        have ho15 := ho10.keep hk15 (by simp)
        have hkw15 := hk10.tr0 hk15
        have hlt15 := ho15.lt
        have hll := dirtyTo_len W D p
        refine pl_op rfl rfl (opTo_app w9.heap.size 58 9 72 (pcells (dirtyTo W D p)) (pcell ((p : Nat), page W p)) rfl rfl rfl (by decide +kernel) ho15 (hx15.range (by simp)) (by rw [pcell_length h8]) (pcell_one _) (by decide) (by unfold maxLen; omega) (by omega) hkw15.size ?_)
        intro g' cap' w16 hown hor
        have hk16 : Keep rv.ownBlock.toList w15 w16 := by
          rcases hor with ⟨e, _, hk⟩ | ⟨_, hk, _⟩
          · rw [e]; exact hk
          · exact hk.of0
        have hkw16 : Keep [] w9 w16 := hkw15.trans hk16 fun k hk => .inr (hlt15 k (by simpa using hk)).1
        repeat (first | refine pl_pure hT rfl rfl rfl ?_ | refine pl_nil ?_ | refine rn_seq ?_ | refine rn_plain ?_ | refine rn_block ?_ | refine rn_inBlock ?_ | refine rn_skip ?_ | refine rn_true rfl ?_ | refine rn_false rfl ?_ | refine rn_exit rfl ?_ | refine pl_not rfl rfl ?_)
        refine pl_val (.int .i64 ((p + 1 : Nat) : Int)) rfl rfl (val_int .i64 p 1 _ rfl rfl rfl (by simp only [intOp]; rw [wrap_i64 (by omega) (by omega)]; rfl) w16) ?_
        repeat (first | refine pl_pure hT rfl rfl rfl ?_ | refine pl_nil ?_ | refine rn_seq ?_ | refine rn_plain ?_ | refine rn_block ?_ | refine rn_inBlock ?_ | refine rn_skip ?_ | refine rn_true rfl ?_ | refine rn_false rfl ?_ | refine rn_exit rfl ?_ | refine pl_not rfl rfl ?_)
        refine rn_sub ?_ (ih (14 - (p + 1)) _ w16 (by omega) ⟨p + 1, .slice (some ⟨g', 0, none⟩) ((dirtyTo W D p).length + 1) cap', rfl, hlt2, rfl, hkw16, ?_⟩)
        · exact ⟨rfl, rfl, rfl, rfl, rfl, rfl, rfl, rfl, rfl, rfl, rfl, rfl, trivial⟩
        · rw [dirtyTo_succ, hb, if_pos rfl, pcells_snoc, List.length_append]
          exact hown
    refine pl_val (.bool false) rfl rfl (val_int .i64 _ _ _ rfl rfl rfl (by simp [intOp]; omega) w10) ?_
    have hp14 : p = 14 := by omega
    subst hp14
    clear ih
    have hr10 : Pgs w10.heap.size w10 rv (dirtyPs W D) := own_pgs ho10 hP9.wf
    have hg10 := hp9.keep hk10 (by simp)
    have hP10 := hP9.ext hk10
    have hy10 := hk10.blk hy9 (by simp)
    clear ho10 hp9 hk10 hP9 hy9
    have hlen14 := dirtyPs_len W D
    obtain ⟨ga, gcap, rfl⟩ := hg10.form
    obtain ⟨ra, rcap, rfl⟩ := hr10.form
    repeat (first | refine pl_pure hT rfl rfl rfl ?_ | refine pl_nil ?_ | refine rn_seq ?_ | refine rn_plain ?_ | refine rn_block ?_ | refine rn_inBlock ?_ | refine rn_skip ?_ | refine rn_true rfl ?_ | refine rn_false rfl ?_ | refine rn_exit rfl ?_ | refine pl_not rfl rfl ?_)
    refine pl_val (.bool false) rfl rfl (val_int .i64 _ _ _ rfl rfl rfl (by simp [intOp]) w10) ?_
    repeat (first | refine pl_pure hT rfl rfl rfl ?_ | refine pl_nil ?_ | refine rn_seq ?_ | refine rn_plain ?_ | refine rn_block ?_ | refine rn_inBlock ?_ | refine rn_skip ?_ | refine rn_true rfl ?_ | refine rn_false rfl ?_ | refine rn_exit rfl ?_ | refine pl_not rfl rfl ?_)
    refine rn_ind (fun q σ w' => ∃ k, q = (dirtyPs W D).length - k ∧ k ≤ (dirtyPs W D).length ∧ σ = [(0, lv), (3, .pointer (some ⟨c.bd, 0, none⟩)), (4, .pointer (some ⟨c.bv, 0, none⟩)), (5, .pointer (some ⟨c.bm, 0, none⟩)), (6, .pointer (some ⟨c.bn, 0, none⟩)), (7, .pointer (some ⟨c.bt, 0, none⟩)), (8, .func (.func 18) #[] #[.pointer (some ⟨c.bn, 0, none⟩), .pointer (some ⟨c.bv, 0, none⟩), .pointer (some ⟨c.bt, 0, none⟩), .pointer (some ⟨c.bd, 0, none⟩), .pointer (some ⟨c.bm, 0, none⟩)]), (9, .int .i64 (j : Nat)), (10, .pointer (some ⟨y, 0, none⟩)), (12, .slice ra (dirtyPs W D).length rcap), (13, .slice ga (dirtyPs W D).length gcap), (17, .int .i64 (k : Nat))] ∧ Keep [] w10 w')
      ((dirtyPs W D).length - 0) _ ?_ ⟨0, rfl, Nat.zero_le _, rfl, Keep.refl _ _⟩ ?_
    · exact ⟨rfl, rfl, rfl, rfl, rfl, rfl, rfl, rfl, rfl, rfl, rfl, rfl, trivial⟩
    rintro q σ w11 ih ⟨k, hq, hk, rfl, hk11⟩
    repeat (first | refine pl_pure hT rfl rfl rfl ?_ | refine pl_nil ?_ | refine rn_seq ?_ | refine rn_plain ?_ | refine rn_block ?_ | refine rn_inBlock ?_ | refine rn_skip ?_ | refine rn_true rfl ?_ | refine rn_false rfl ?_ | refine rn_exit rfl ?_ | refine pl_not rfl rfl ?_)
    rcases Nat.lt_or_ge k (dirtyPs W D).length with hlt2 | hge2
    · refine pl_val (.bool true) rfl rfl (val_int .i64 _ _ _ rfl rfl rfl (by simp [intOp]; omega) w11) ?_
      obtain ⟨x, hx⟩ : ∃ x, (dirtyPs W D)[k]? = some x := ⟨_, List.getElem?_eq_getElem hlt2⟩
      have h8 := hP10.wf x (List.mem_of_getElem? hx)
      obtain ⟨b1, o1, cap1, e1, hb1, hr1⟩ := (hg10.keep hk11 (by simp)).at hx
      obtain ⟨b2, o2, cap2, e2, hb2, hr2⟩ := (hr10.keep hk11 (by simp)).at hx
      injection e1 with e1 _ _
      injection e2 with e2 _ _
      subst e1
      subst e2
      repeat (first | refine pl_pure hT rfl rfl rfl ?_ | refine pl_nil ?_ | refine rn_seq ?_ | refine rn_plain ?_ | refine rn_block ?_ | refine rn_inBlock ?_ | refine rn_skip ?_ | refine rn_true rfl ?_ | refine rn_false rfl ?_ | refine rn_exit rfl ?_ | refine pl_not rfl rfl ?_)
      have hS0 : w11.drew.rangeAt b1 (o1 + k * 9) (pcell x) ∧ w11.drew.rangeAt b2 (o2 + k * 9) (pcell x) := ⟨hr1, hr2⟩
      refine rn_draw (fun w' => w'.rangeAt b1 (o1 + k * 9) (pcell x) ∧ w'.rangeAt b2 (o2 + k * 9) (pcell x)) [] hMix ?_
      refine dr_pure 0 hT rfl (by decide +kernel) rfl rfl rfl ?_
      refine dr_pure 1 hT rfl (by decide +kernel) rfl rfl rfl ?_
      refine dr_any 2 _ rfl (by decide +kernel) rfl rfl (fun w' => val_index k hT rfl rfl rfl rfl rfl hlt2 w') ?_
      refine dr_pure 3 hT rfl (by decide +kernel) rfl rfl rfl ?_
      refine dr_val 4 (.int .i64 x.1) rfl (by decide +kernel) rfl rfl (fun w' hk => val_load1 hT rfl rfl rfl (hk.1 0 _ rfl)) hS0 ?_
      refine dr_pure 5 hT rfl (by decide +kernel) rfl rfl rfl ?_
      refine dr_pure 6 hT rfl (by decide +kernel) rfl rfl rfl ?_
      refine dr_any 7 _ rfl (by decide +kernel) rfl rfl (fun w' => val_index k hT rfl rfl rfl rfl rfl hlt2 w') ?_
      refine dr_pure 8 hT rfl (by decide +kernel) rfl rfl rfl ?_
      refine dr_val 9 (.int .i64 x.1) rfl (by decide +kernel) rfl rfl (fun w' hk => val_load1 hT rfl rfl rfl (hk.2 0 _ rfl)) hS0 ?_
      refine dr_any 10 (.bool false) rfl (by decide +kernel) rfl rfl (fun w' => val_int .i64 _ _ _ rfl rfl rfl (by simp [intOp]) w') ?_
      refine dr_pure 11 hT rfl (by decide +kernel) rfl rfl rfl ?_
      refine dr_pure 12 hT rfl (by decide +kernel) rfl rfl rfl ?_
      refine dr_pure 13 hT rfl (by decide +kernel) rfl rfl rfl ?_
      refine dr_any 14 _ rfl (by decide +kernel) rfl rfl (fun w' => val_index k hT rfl rfl rfl rfl rfl hlt2 w') ?_
      refine dr_pure 15 hT rfl (by decide +kernel) rfl rfl rfl ?_
      refine dr_val 16 (.agg (ints x.2).toArray) rfl (by decide +kernel) rfl rfl (fun w' hk => val_load _ hT rfl rfl (by rw [ints_length, h8]; rfl) (range_sub hk.1 1 (by simp [pcell]))) hS0 ?_
      refine dr_pure 17 hT rfl (by decide +kernel) rfl rfl rfl ?_
      refine dr_pure 18 hT rfl (by decide +kernel) rfl rfl rfl ?_
      refine dr_any 19 _ rfl (by decide +kernel) rfl rfl (fun w' => val_index k hT rfl rfl rfl rfl rfl hlt2 w') ?_
      refine dr_pure 20 hT rfl (by decide +kernel) rfl rfl rfl ?_
      refine dr_val 21 (.agg (ints x.2).toArray) rfl (by decide +kernel) rfl rfl (fun w' hk => val_load _ hT rfl rfl (by rw [ints_length, h8]; rfl) (range_sub hk.2 1 (by simp [pcell]))) hS0 ?_
      refine dr_any 22 (.bool false) rfl (by decide +kernel) rfl rfl (fun w' => val_neInts _ _ arrW rfl rfl rfl h8 h8 _ (by simp) w') ?_
      refine dr_pure 23 hT rfl (by decide +kernel) rfl rfl rfl ?_
      refine dr_done (by decide +kernel) ?_
      repeat (first | refine pl_pure hT rfl rfl rfl ?_ | refine pl_nil ?_ | refine rn_seq ?_ | refine rn_plain ?_ | refine rn_block ?_ | refine rn_inBlock ?_ | refine rn_skip ?_ | refine rn_true rfl ?_ | refine rn_false rfl ?_ | refine rn_exit rfl ?_ | refine pl_not rfl rfl ?_)
      refine pl_val (.int .i64 ((k + 1 : Nat) : Int)) rfl rfl (val_int .i64 k 1 _ rfl rfl rfl (by simp only [intOp]; rw [wrap_i64 (by omega) (by omega)]; rfl) _) ?_
      repeat (first | refine pl_pure hT rfl rfl rfl ?_ | refine pl_nil ?_ | refine rn_seq ?_ | refine rn_plain ?_ | refine rn_block ?_ | refine rn_inBlock ?_ | refine rn_skip ?_ | refine rn_true rfl ?_ | refine rn_false rfl ?_ | refine rn_exit rfl ?_ | refine pl_not rfl rfl ?_)
      refine rn_sub ?_ (ih ((dirtyPs W D).length - (k + 1)) _ _ (by omega) ⟨k + 1, rfl, hlt2, rfl, hk11.drew⟩)
      exact ⟨rfl, rfl, rfl, rfl, rfl, rfl, rfl, rfl, rfl, rfl, rfl, rfl, trivial⟩
    refine pl_val (.bool false) rfl rfl (val_int .i64 _ _ _ rfl rfl rfl (by simp [intOp]; omega) w11) ?_
    clear ih
    have hP11 := hP10.ext hk11
    have hy11 := hk11.blk hy10 (by simp)
    have hr11 := hr10.keep hk11 (by simp)
    clear hP10 hy10 hr10 hg10 hk11
    repeat (first | refine pl_pure hT rfl rfl rfl ?_ | refine pl_nil ?_ | refine rn_inBlock ?_ | refine rn_skip ?_ | refine rn_true rfl ?_ | refine rn_false rfl ?_ | refine rn_exit rfl ?_)
    refine rn_seq ?_
    refine rn_with (fun σ w' => σ = [(0, lv), (3, .pointer (some ⟨c.bd, 0, none⟩)), (4, .pointer (some ⟨c.bv, 0, none⟩)), (5, .pointer (some ⟨c.bm, 0, none⟩)), (6, .pointer (some ⟨c.bn, 0, none⟩)), (7, .pointer (some ⟨c.bt, 0, none⟩)), (8, .func (.func 18) #[] #[.pointer (some ⟨c.bn, 0, none⟩), .pointer (some ⟨c.bv, 0, none⟩), .pointer (some ⟨c.bt, 0, none⟩), .pointer (some ⟨c.bd, 0, none⟩), .pointer (some ⟨c.bm, 0, none⟩)]), (9, .int .i64 (j : Nat)), (10, .pointer (some ⟨y, 0, none⟩))] ∧ Torn w w' c m u.m (j + 1) ∧ Blk w' y (scell u) 54) ?_ ?_
    · clear hP11 hy11 hr11 hJ1
      rintro σ w12 ⟨rfl, ⟨S1, L1, wv1, W1, D1, gen, P1, X1, b, hkw12, h12', hL12, hf12, hW1, hD1, hP1, hX1, hg0, hgn, hG, hgen, hrd⟩, hy12⟩
      obtain ⟨S', hS'⟩ : ∃ S', S' = settled (maskB u.m) L1 S1 := ⟨_, rfl⟩
      repeat (first | refine pl_pure hT rfl rfl rfl ?_ | refine pl_nil ?_ | refine rn_seq ?_ | refine rn_plain ?_ | refine rn_block ?_ | refine rn_inBlock ?_ | refine rn_skip ?_ | refine rn_true rfl ?_ | refine rn_false rfl ?_ | refine rn_exit rfl ?_ | refine pl_not rfl rfl ?_)
      refine pl_val _ rfl rfl (val_load1 hT rfl rfl rfl (hf12.boxd.cell rfl)) ?_
      repeat (first | refine pl_pure hT rfl rfl rfl ?_ | refine pl_nil ?_ | refine rn_seq ?_ | refine rn_plain ?_ | refine rn_block ?_ | refine rn_inBlock ?_ | refine rn_skip ?_ | refine rn_true rfl ?_ | refine rn_false rfl ?_ | refine rn_exit rfl ?_ | refine pl_not rfl rfl ?_)
      refine pl_val (.int .u64 u.m) rfl rfl (val_load1 hT rfl rfl rfl (hy12.cell rfl)) ?_
      refine pl_op rfl rfl (opTo_call rfl rfl rfl rfl (by decide +kernel) ((crash_ret h12' hL12 u.m).mono ?_))
      rintro v w13 ⟨rfl, h13, hk13⟩
      rw [← hS'] at h13 hG hgen hrd
      have ho13 := Off.one h12'.blk
      have hf13 := hf12.keep hk13 ho13 (by decide)
      have hy13 := hk13.typ ho13 hy12 (by decide)
      have hkw13 : Keep [] w w13 := hkw12.trans hk13 fun k hk => .inr (by have := hlo.1; simp at hk; omega)
      repeat (first | refine pl_pure hT rfl rfl rfl ?_ | refine pl_nil ?_ | refine rn_seq ?_ | refine rn_plain ?_ | refine rn_block ?_ | refine rn_inBlock ?_ | refine rn_skip ?_ | refine rn_true rfl ?_ | refine rn_false rfl ?_ | refine rn_exit rfl ?_ | refine pl_not rfl rfl ?_)
      refine pl_val _ rfl rfl (val_load1 hT rfl rfl rfl (hf13.boxv.cell rfl)) ?_
      repeat (first | refine pl_pure hT rfl rfl rfl ?_ | refine pl_nil ?_ | refine rn_seq ?_ | refine rn_plain ?_ | refine rn_block ?_ | refine rn_inBlock ?_ | refine rn_skip ?_ | refine rn_true rfl ?_ | refine rn_false rfl ?_ | refine rn_exit rfl ?_ | refine pl_not rfl rfl ?_)
      refine pl_val (.int .u64 u.m) rfl rfl (val_load1 hT rfl rfl rfl (hy13.cell rfl)) ?_
      refine pl_op rfl rfl (opTo_call rfl rfl rfl rfl (by decide +kernel) ((vcrash_ret hf13.vault hP1 hX1 hg0 (by omega) u.m).mono ?_))
      rintro v w14 ⟨rfl, hk14, hv14⟩
      have ho14 := Off.one hf13.vault
      have h14 := h13.typ hk14 ho14 (by decide)
      have hy14 := hk14.typ ho14 hy13 (by decide)
      have hkw14 : Keep [] w w14 := hkw13.trans hk14 fun k hk => .inr (by have := hlo.2.1; simp at hk; omega)
      obtain ⟨P', hP', hf14, hr14⟩ : ∃ P', Full P' ∧ Fx w14 c m W1 D1 (genS S') P' X1 false ∧ ∀ i, i < 14 → readS S' (i : Nat) = P' i := by
        by_cases hcm : b = true ∧ maskB u.m 0 = true
        · rw [if_pos hcm] at hv14 hgen
          refine ⟨X1, hX1, ?_, fun i hi => by rw [hrd i hi, if_pos hcm]⟩
          rw [hgen]
          exact hf13.setVault hk14 hv14
        · rw [if_neg hcm] at hv14 hgen
          refine ⟨P1, hP1, ?_, fun i hi => by rw [hrd i hi, if_neg hcm]⟩
          rw [hgen]
          exact hf13.setVault hk14 hv14
      repeat (first | refine pl_pure hT rfl rfl rfl ?_ | refine pl_nil ?_ | refine rn_seq ?_ | refine rn_plain ?_ | refine rn_block ?_ | refine rn_inBlock ?_ | refine rn_skip ?_ | refine rn_true rfl ?_ | refine rn_false rfl ?_ | refine rn_exit rfl ?_ | refine pl_not rfl rfl ?_)
      refine pl_op rfl rfl (opTo_call rfl rfl rfl rfl (by decide +kernel) ((wake_ret h14 hG hf14 hW1 hD1 hP' hr14).mono ?_))
      rintro v w15 ⟨rfl, s', m', h15, hf15, hk15⟩
      have hkw15 : Keep [] w w15 := hkw14.trans hk15 fun k hk => .inr (by
        obtain ⟨l1, l2, l3, l4, l5⟩ := hlo
        simp at hk
        omega)
      have hy15 := hk15.typ (Off.cons hf14.now (Off.cons hf14.dirt (Off.one hf14.boxm))) hy14 (by decide)
      have hgj : genS S' ≤ (j + 1 : Nat) := by
        rw [hgen]
        split <;> omega
      repeat (first | refine pl_pure hT rfl rfl rfl ?_ | refine pl_nil ?_ | refine rn_inBlock ?_ | refine rn_skip ?_ | refine rn_true rfl ?_ | refine rn_false rfl ?_ | refine rn_exit rfl ?_)
      refine rn_sub ?_ (hJ2 _ _ ⟨s', m', S', _, _, _, P', X1, rfl, ⟨hkw15, h15, hf15, hP', hX1, hr14, hgj⟩, hy15⟩)
      exact ⟨rfl, rfl, rfl, rfl, rfl, rfl, rfl, rfl, rfl, trivial⟩
    intro hJ3
    refine rn_seq ?_
    refine rn_plain ?_
    refine pl_pure hT rfl rfl rfl ?_
    refine pl_val (.int .i64 u.d) rfl rfl (val_load1 hT rfl rfl rfl (hy11.cell rfl)) ?_
    by_cases hd1 : u.d = 1
    case neg =>
      refine pl_val (.bool false) rfl rfl (val_int .i64 _ 1 _ rfl rfl rfl (by simp [intOp, hd1]) w11) ?_
      repeat (first | refine pl_pure hT rfl rfl rfl ?_ | refine pl_nil ?_ | refine rn_inBlock ?_ | refine rn_skip ?_ | refine rn_true rfl ?_ | refine rn_false rfl ?_ | refine rn_exit rfl ?_)
      refine rn_sub ?_ (hJ3 _ _ ⟨rfl, hP11.torn u.m, hy11⟩)
      exact ⟨rfl, rfl, rfl, rfl, rfl, rfl, rfl, rfl, rfl, trivial⟩
    refine pl_val (.bool true) rfl rfl (val_int .i64 _ 1 _ rfl rfl rfl (by simp [intOp, hd1]) w11) ?_
    repeat (first | refine pl_pure hT rfl rfl rfl ?_ | refine pl_nil ?_ | refine rn_seq ?_ | refine rn_plain ?_ | refine rn_block ?_ | refine rn_inBlock ?_ | refine rn_skip ?_ | refine rn_true rfl ?_ | refine rn_false rfl ?_ | refine rn_exit rfl ?_ | refine pl_not rfl rfl ?_)
    refine pl_val _ rfl rfl (val_load1 hT rfl rfl rfl (hP11.fx.boxv.cell rfl)) ?_
    repeat (first | refine pl_pure hT rfl rfl rfl ?_ | refine pl_nil ?_ | refine rn_seq ?_ | refine rn_plain ?_ | refine rn_block ?_ | refine rn_inBlock ?_ | refine rn_skip ?_ | refine rn_true rfl ?_ | refine rn_false rfl ?_ | refine rn_exit rfl ?_ | refine pl_not rfl rfl ?_)
    refine pl_val (.int .i64 u.k) rfl rfl (val_load1 hT rfl rfl rfl (hy11.cell rfl)) ?_
    have hgj := hP11.gen
    have hg0 := genS_nonneg S
    refine pl_op rfl rfl (opTo_call rfl rfl rfl rfl (by decide +kernel) ((vcommit_ret hP11.fx.vault hP11.fP hP11.fX hg0 (by omega) hr11 (by omega) u.k (chk_dirty W D)).mono ?_))
    rintro v w12 ⟨rfl, hk12, hv12⟩
    have hdb : decide (u.k < 0 ∨ u.k > ((dirtyPs W D).length + 4 : Nat)) = doneB (dirtyPs W D) u.k := by
      unfold doneB
      refine decide_eq_decide.2 ?_
      omega
    rw [hdb]
    have ho12 := Off.one hP11.fx.vault
    have h12' := hP11.st.typ hk12 ho12 (by decide) (by decide) (by decide)
    have hbm12 := hk12.typ ho12 hP11.fx.boxm (by decide)
    have hy12 := hk12.typ ho12 hy11 (by decide)
    have hoS := Off.cons h12'.mem.blk (Off.disk h12'.dsk)
    cases hb : doneB (dirtyPs W D) u.k with
    | true =>
      rw [if_pos (by rw [hb] at hdb; simpa using hdb)] at hv12
      repeat (first | refine pl_pure hT rfl rfl rfl ?_ | refine pl_nil ?_ | refine rn_seq ?_ | refine rn_plain ?_ | refine rn_block ?_ | refine rn_inBlock ?_ | refine rn_skip ?_ | refine rn_true rfl ?_ | refine rn_false rfl ?_ | refine rn_exit rfl ?_ | refine pl_not rfl rfl ?_)
      refine pl_val _ rfl rfl (val_load1 hT rfl rfl rfl (hbm12.cell rfl)) ?_
      repeat (first | refine pl_pure hT rfl rfl rfl ?_ | refine pl_nil ?_ | refine rn_seq ?_ | refine rn_plain ?_ | refine rn_block ?_ | refine rn_inBlock ?_ | refine rn_skip ?_ | refine rn_true rfl ?_ | refine rn_false rfl ?_ | refine rn_exit rfl ?_ | refine pl_not rfl rfl ?_)
      refine pl_val (.int .i64 u.k) rfl rfl (val_load1 hT rfl rfl rfl (hy12.cell rfl)) ?_
      refine pl_op rfl rfl (opTo_call rfl rfl rfl rfl (by decide +kernel) ((syncs_ret h12' (by omega) u.k hb).mono ?_))
      rintro v w13 ⟨rfl, S2, wv2, h13, hg13, _, hk13⟩
      repeat (first | refine pl_pure hT rfl rfl rfl ?_ | refine pl_nil ?_ | refine rn_seq ?_ | refine rn_plain ?_ | refine rn_block ?_ | refine rn_inBlock ?_ | refine rn_skip ?_ | refine rn_true rfl ?_ | refine rn_false rfl ?_ | refine rn_exit rfl ?_ | refine pl_not rfl rfl ?_)
      refine pl_val (.bool false) rfl rfl (val_neBool true true false (by decide +kernel) rfl rfl rfl rfl w13) ?_
      repeat (first | refine pl_pure hT rfl rfl rfl ?_ | refine pl_nil ?_ | refine rn_seq ?_ | refine rn_plain ?_ | refine rn_block ?_ | refine rn_inBlock ?_ | refine rn_skip ?_ | refine rn_true rfl ?_ | refine rn_false rfl ?_ | refine rn_exit rfl ?_ | refine pl_not rfl rfl ?_)
      have hD14 := hP11.done hlo hk12 hv12 hk13 h13 hg13
      have hdirt : Blk w13 c.bt (bools D) 52 := hk13.typ hoS (hk12.typ ho12 hP11.fx.dirt (by decide)) (by decide)
      refine pl_val _ rfl rfl (val_build _ rfl rfl built_bools0 w13) ?_
      refine pl_op rfl rfl (opTo_store (bools (List.replicate 14 false)) rfl rfl rfl rfl (by kernel_rfl) hdirt (by rw [bools_length, bools_length, hDl]; decide) (bools_one _) ?_)
      rw [splice_all (by rw [bools_length, bools_length, hDl]; rfl)]
      repeat (first | refine pl_pure hT rfl rfl rfl ?_ | refine pl_nil ?_ | refine rn_inBlock ?_ | refine rn_skip ?_ | refine rn_true rfl ?_ | refine rn_false rfl ?_ | refine rn_exit rfl ?_)
      refine rn_sub ?_ (hJ1 _ _ ⟨s, m, _, _, _, _, _, _, rfl, hD14⟩)
      exact ⟨rfl, rfl, rfl, rfl, rfl, rfl, rfl, rfl, trivial⟩
    | false =>
      rw [if_neg (by rw [hb] at hdb; simpa using hdb)] at hv12
      repeat (first | refine pl_pure hT rfl rfl rfl ?_ | refine pl_nil ?_ | refine rn_seq ?_ | refine rn_plain ?_ | refine rn_block ?_ | refine rn_inBlock ?_ | refine rn_skip ?_ | refine rn_true rfl ?_ | refine rn_false rfl ?_ | refine rn_exit rfl ?_ | refine pl_not rfl rfl ?_)
      refine pl_val _ rfl rfl (val_load1 hT rfl rfl rfl (hbm12.cell rfl)) ?_
      repeat (first | refine pl_pure hT rfl rfl rfl ?_ | refine pl_nil ?_ | refine rn_seq ?_ | refine rn_plain ?_ | refine rn_block ?_ | refine rn_inBlock ?_ | refine rn_skip ?_ | refine rn_true rfl ?_ | refine rn_false rfl ?_ | refine rn_exit rfl ?_ | refine pl_not rfl rfl ?_)
      refine pl_val (.int .i64 u.k) rfl rfl (val_load1 hT rfl rfl rfl (hy12.cell rfl)) ?_
      refine pl_op rfl rfl (opTo_call rfl rfl rfl rfl (by decide +kernel) ((sync_ret h12'.mem h12'.sto h12'.dsk (by omega) u.k).mono ?_))
      rintro v w13 ⟨rfl, hm13, hs13, hk13, wv2, h13, _⟩
      rw [hb]
      repeat (first | refine pl_pure hT rfl rfl rfl ?_ | refine pl_nil ?_ | refine rn_seq ?_ | refine rn_plain ?_ | refine rn_block ?_ | refine rn_inBlock ?_ | refine rn_skip ?_ | refine rn_true rfl ?_ | refine rn_false rfl ?_ | refine rn_exit rfl ?_ | refine pl_not rfl rfl ?_)
      refine pl_val (.bool false) rfl rfl (val_neBool false false false (by decide +kernel) rfl rfl rfl rfl w13) ?_
      repeat (first | refine pl_pure hT rfl rfl rfl ?_ | refine pl_nil ?_ | refine rn_inBlock ?_ | refine rn_skip ?_ | refine rn_true rfl ?_ | refine rn_false rfl ?_ | refine rn_exit rfl ?_)
      refine rn_seq ?_
      refine rn_plain ?_
      repeat (first | refine pl_pure hT rfl rfl rfl ?_ | refine pl_nil ?_ | refine rn_inBlock ?_ | refine rn_skip ?_ | refine rn_true rfl ?_ | refine rn_false rfl ?_ | refine rn_exit rfl ?_)
      refine rn_sub ?_ (hJ3 _ _ ⟨rfl, hP11.left hlo hb hk12 hv12 hk13 h13 u.m, hk13.typ hoS hy12 (by decide)⟩)
      exact ⟨rfl, rfl, rfl, rfl, rfl, rfl, rfl, rfl, rfl, trivial⟩
  intro hjoin
  refine rn_seq ?_
  refine rn_plain ?_
  by_cases hd1 : u.d = 1
  · refine pl_val (.bool true) rfl rfl (val_int .i64 _ 1 _ rfl rfl rfl (by simp [intOp, hd1]) w7) ?_
    refine pl_pure hT rfl rfl rfl ?_
    refine pl_nil ?_
    refine rn_true rfl ?_
    refine rn_skip ?_
    refine rn_sub ?_ (hjoin _ w7 ⟨rfl, rfl⟩)
    rw [decide_eq_true (.inl hd1)]
    exact ⟨rfl, rfl, rfl, rfl, rfl, rfl, rfl, rfl, rfl, rfl, trivial⟩
  · refine pl_val (.bool false) rfl rfl (val_int .i64 _ 1 _ rfl rfl rfl (by simp [intOp, hd1]) w7) ?_
    refine pl_pure hT rfl rfl rfl ?_
    refine pl_nil ?_
    refine rn_false rfl ?_
    refine rn_plain ?_
    refine pl_val (.bool (decide (u.d = 2))) rfl rfl (val_int .i64 _ 2 _ rfl rfl rfl (by simp only [intOp]; rfl) w7) ?_
    refine pl_pure hT rfl rfl rfl ?_
    refine pl_nil ?_
    refine rn_sub ?_ (hjoin _ w7 ⟨rfl, rfl⟩)
    rw [show decide (u.d = 1 ∨ u.d = 2) = decide (u.d = 2) by simp [hd1]]
    exact ⟨rfl, rfl, rfl, rfl, rfl, rfl, rfl, rfl, rfl, rfl, trivial⟩
end E
end Go.Proofs.Ytcnjmjdnlhiflab
