/- Several texts in one: PgG, PgH, PgI. -/
import Derived.Test.YthbkcadiejfgaacGreatDoorJ19
import Derived.Test.YthbkcadiejfgaacGreatDoorJ06
/- The landed reader: a variable that is said, a program. -/
namespace Go.Proofs.YthbkcadiejfgaacGreatDoor
set_option maxRecDepth 20000
set_option maxHeartbeats 4000000
namespace E
open Go.Proofs

section
variable {w0 w w' : World} {lv vv : Value} {ts : List Tok} {fin b i : Nat} {vs : List VarT}
theorem isT_must {s : List UInt8} (h : isT ts i s = true) : mustP ts fin s i = .ok (i + 1) := by
  unfold mustP
  rw [if_pos h]

theorem let_end (hct : Ct ts) (hvl : vs.length ≤ 100000) (h : Rd w0 lv ts fin b vv vs w i) (hlet : isT ts i letT = true) :
    Goes 62 [.pointer (some ⟨b, 0, none⟩)] w0 w (letP ts fin i) fun q _ w' => (∃ vv', Rd w0 lv ts fin b vv' (vs ++ [q.1]) w' q.2) ∧ ∃ fp : List Nat, (∀ k ∈ fp, k = b ∨ vv.ownBlock = some k) ∧ Keep fp w w' := by
  have hbw := h.lt
  refine end_of 35 Tryz.func62 rfl rfl (by simp) ?_
  (repeat (first | refine pl_pure hT rfl rfl rfl ?_ | refine pl_nil ?_ | refine rn_seq ?_ | refine rn_plain ?_ | refine rn_block ?_ | refine rn_inBlock ?_ | refine rn_skip ?_ | refine rn_true rfl ?_ | refine rn_false rfl ?_ | refine rn_exit rfl ?_ | refine pl_not rfl rfl ?_))
  obtain ⟨TOT, hTOT⟩ : ∃ TOT, TOT = letP ts fin i := ⟨_, rfl⟩
  rw [← hTOT]
  have hT1 : TOT = bnd (takeP ts fin (fun t => nameB t.text) (i + 1)) fun q => bnd (takeP ts fin (fun t => t.num) q.2) fun p => .ok ((str q.1.text, sizeP p.1.val), p.2) := by
    rw [hTOT]
    unfold letP
    rw [name_take]
    cases takeP ts fin (fun t => nameB t.text) (i + 1) with
    | error e => rfl
    | ok q =>
      show bnd (numP ts fin q.2) _ = bnd (takeP ts fin (fun t => t.num) q.2) _
      rw [num_take]
      cases takeP ts fin (fun t => t.num) q.2 <;> rfl
  refine pl_opE Tryz.func62 rfl rfl (opE_call (fst := []) (cap := []) rfl rfl rfl rfl (by decide +kernel) (End.mono (text_end hct h letT (by decide)) ?_ ?_))
  rotate_left
  · rintro x w1 ⟨e, hX, r⟩
    rw [isT_must hlet] at hX
    cases hX
  rintro r w1 ⟨j, hX, h1, hk1⟩
  rw [isT_must hlet] at hX
  injection hX with hX
  subst hX
  (repeat (first | refine pl_pure hT rfl rfl rfl ?_ | refine pl_nil ?_ | refine rn_seq ?_ | refine rn_plain ?_ | refine rn_block ?_ | refine rn_inBlock ?_ | refine rn_skip ?_ | refine rn_true rfl ?_ | refine rn_false rfl ?_ | refine rn_exit rfl ?_ | refine pl_not rfl rfl ?_))
  refine pl_opE Tryz.func62 rfl rfl (opE_call (fst := []) (cap := []) rfl rfl rfl rfl (by decide +kernel) (End.mono (takeName_end h1) ?_ ?_))
  rotate_left
  · rintro x w1 ⟨e, hX, r⟩
    exact ⟨e, by rw [hT1, hX]; rfl, r⟩
  rintro r w2 ⟨⟨t, j⟩, hX, rfl, h2, hk2⟩
  rw [hX] at hT1
  have hT2 : TOT = bnd (takeP ts fin (fun t => t.num) j) fun p => .ok ((str t.text, sizeP p.1.val), p.2) := hT1
  refine pl_op rfl rfl (opTo_allocN _ rfl zero_tok ?_)
  intro w3 b2 hb20 hs3 hk3 hz3
  refine pl_op rfl rfl (opTo_storeN (tokL t) rfl rfl rfl rfl size_tok hz3 (by simp [tokC, tokL]) (tokC_one _ _ _ _) ?_)
  intro w4 hs4 hk4 hz4
  rw [splice_whole (by rfl)] at hz4
  have hk24 : Keep [] w2 w4 := hk3.trB hk4 (by omega)
  have h4 := h2.keep0 hk24
  have hk04 : Keep [b] w w4 := (hk1.tr hk2).tr0 hk24
  have hb2w : w.heap.size ≤ b2 := by have := hk1.size; have := hk2.size; omega
  (repeat (first | refine pl_pure hT rfl rfl rfl ?_ | refine pl_nil ?_ | refine rn_seq ?_ | refine rn_plain ?_ | refine rn_block ?_ | refine rn_inBlock ?_ | refine rn_skip ?_ | refine rn_true rfl ?_ | refine rn_false rfl ?_ | refine rn_exit rfl ?_ | refine pl_not rfl rfl ?_))
  refine pl_opE Tryz.func62 rfl rfl (opE_call (fst := []) (cap := []) rfl rfl rfl rfl (by decide +kernel) (End.mono (takeNum_end h4) ?_ ?_))
  rotate_left
  · rintro x w1 ⟨e, hX, r⟩
    exact ⟨e, by rw [hT2, hX]; rfl, r⟩
  rintro r w5 ⟨⟨u, k⟩, hX, rfl, h5, hk5⟩
  rw [hX] at hT2
  have hT3 : TOT = .ok ((str t.text, sizeP u.val), k) := hT2
  have hz5 := hk5.blk hz4 (by simp; omega)
  refine pl_op rfl rfl (opTo_allocN _ rfl zero_tok ?_)
  intro w6 b3 hb30 hs6 hk6 hx6
  refine pl_op rfl rfl (opTo_storeN (tokL u) rfl rfl rfl rfl size_tok hx6 (by simp [tokC, tokL]) (tokC_one _ _ _ _) ?_)
  intro w7 hs7 hk7 hx7
  rw [splice_whole (by rfl)] at hx7
  have hk57 : Keep [] w5 w7 := hk6.trB hk7 (by omega)
  have hz7 := hk57.blk hz5 (by simp)
  (repeat (first | refine pl_pure hT rfl rfl rfl ?_ | refine pl_nil ?_ | refine rn_seq ?_ | refine rn_plain ?_ | refine rn_block ?_ | refine rn_inBlock ?_ | refine rn_skip ?_ | refine rn_true rfl ?_ | refine rn_false rfl ?_ | refine rn_exit rfl ?_ | refine pl_not rfl rfl ?_))
  refine pl_val _ rfl rfl (val_load1 hT rfl rfl rfl (hz7.cell rfl)) ?_
  refine pl_val _ rfl rfl (val_build _ rfl rfl (built_v1 (str t.text)) w7) ?_
  refine pl_op rfl rfl (opTo_allocN _ rfl zero_v ?_)
  intro w8 b4 hb40 hs8 hk8 hy8
  refine pl_op rfl rfl (opTo_storeN (vcell (str t.text, 0)) rfl rfl rfl rfl size_v hy8 (by simp [vcell]) (by simp [vcell]; constructor <;> rfl) ?_)
  intro w9 hs9 hk9 hy9
  rw [splice_whole (by rfl)] at hy9
  have hk79 : Keep [] w7 w9 := hk8.trB hk9 (by omega)
  have hx9 := hk79.blk hx7 (by simp)
  have hk59 : Keep [] w5 w9 := hk57.tr hk79
  have s5 := hk5.size
  have s04 := hk04.size
  have s57 := hk57.size
  (repeat (first | refine pl_pure hT rfl rfl rfl ?_ | refine pl_not rfl rfl ?_ | refine pl_nil ?_ | refine rn_inBlock ?_ | refine rn_skip ?_ | refine rn_true rfl ?_ | refine rn_false rfl ?_ | refine rn_exit rfl ?_))
  refine rn_seq ?_
  refine rn_with (fun σ' w' => Blk w' b4 (vcell (str t.text, sizeP u.val)) 57 ∧ Keep [] w5 w' ∧ Sub [(0, .pointer (some ⟨b, 0, none⟩)), (4, .pointer (some ⟨b4, 0, none⟩))] σ') ?_ ?_
  rotate_left
  · intro fin1
    refine rn_seq ?_
    refine rn_plain ?_
    (repeat (first | refine pl_pure hT rfl rfl rfl ?_ | refine pl_not rfl rfl ?_ | refine pl_nil ?_ | refine rn_inBlock ?_ | refine rn_skip ?_ | refine rn_true rfl ?_ | refine rn_false rfl ?_ | refine rn_exit rfl ?_))
    refine pl_val _ rfl rfl (val_load1 hT rfl rfl rfl (hx9.cell rfl)) ?_
    by_cases h1' : 1 ≤ u.val
    · refine pl_yes rfl rfl rfl rfl rfl (by first | (simp only [cmpP]; omega) | (simp [cmpP]; done) | (simp [cmpP]; omega)) ?_
      (repeat (first | refine pl_pure hT rfl rfl rfl ?_ | refine pl_not rfl rfl ?_ | refine pl_nil ?_ | refine rn_inBlock ?_ | refine rn_skip ?_ | refine rn_true rfl ?_ | refine rn_false rfl ?_ | refine rn_exit rfl ?_))
      refine pl_val _ rfl rfl (val_load1 hT rfl rfl rfl (hx9.cell rfl)) ?_
      by_cases h2' : u.val ≤ 48
      · refine pl_yes rfl rfl rfl rfl rfl (by first | (simp only [cmpP]; omega) | (simp [cmpP]; done) | (simp [cmpP]; omega)) ?_
        (repeat (first | refine pl_pure hT rfl rfl rfl ?_ | refine pl_not rfl rfl ?_ | refine pl_nil ?_ | refine rn_inBlock ?_ | refine rn_skip ?_ | refine rn_true rfl ?_ | refine rn_false rfl ?_ | refine rn_exit rfl ?_))
        refine rn_plain ?_
        (repeat (first | refine pl_pure hT rfl rfl rfl ?_ | refine pl_not rfl rfl ?_ | refine pl_nil ?_ | refine rn_inBlock ?_ | refine rn_skip ?_ | refine rn_true rfl ?_ | refine rn_false rfl ?_ | refine rn_exit rfl ?_))
        refine pl_val _ rfl rfl (val_load1 hT rfl rfl rfl (hx9.cell rfl)) ?_
        (repeat (first | refine pl_pure hT rfl rfl rfl ?_ | refine pl_not rfl rfl ?_ | refine pl_nil ?_ | refine rn_inBlock ?_ | refine rn_skip ?_ | refine rn_true rfl ?_ | refine rn_false rfl ?_ | refine rn_exit rfl ?_))
        refine pl_op rfl rfl (opTo_storeN [.int .i64 u.val] rfl rfl rfl rfl size_int hy9 (by simp [vcell]) (by simp; rfl) ?_)
        intro w10 hs10 hk10 hy10
        (repeat (first | refine pl_pure hT rfl rfl rfl ?_ | refine pl_not rfl rfl ?_ | refine pl_nil ?_ | refine rn_inBlock ?_ | refine rn_skip ?_ | refine rn_true rfl ?_ | refine rn_false rfl ?_ | refine rn_exit rfl ?_))
        refine fin1 _ _ ⟨?_, hk59.trB hk10 (by omega), rfl, rfl, trivial⟩
        have e : sizeP u.val = u.val := by
          unfold sizeP
          rw [if_pos ⟨h1', h2'⟩]
        rw [e]
        exact hy10
      · refine pl_no rfl rfl rfl rfl rfl rfl (by first | (simp only [cmpP]; omega) | (simp [cmpP]; done) | (simp [cmpP]; omega)) ?_
        (repeat (first | refine pl_pure hT rfl rfl rfl ?_ | refine pl_not rfl rfl ?_ | refine pl_nil ?_ | refine rn_inBlock ?_ | refine rn_skip ?_ | refine rn_true rfl ?_ | refine rn_false rfl ?_ | refine rn_exit rfl ?_))
        refine fin1 _ _ ⟨?_, hk59, rfl, rfl, trivial⟩
        have e : sizeP u.val = 0 := by
          unfold sizeP
          rw [if_neg (by omega)]
        rw [e]
        exact hy9
    · refine pl_no rfl rfl rfl rfl rfl rfl (by first | (simp only [cmpP]; omega) | (simp [cmpP]; done) | (simp [cmpP]; omega)) ?_
      (repeat (first | refine pl_pure hT rfl rfl rfl ?_ | refine pl_not rfl rfl ?_ | refine pl_nil ?_ | refine rn_inBlock ?_ | refine rn_skip ?_ | refine rn_true rfl ?_ | refine rn_false rfl ?_ | refine rn_exit rfl ?_))
      refine fin1 _ _ ⟨?_, hk59, rfl, rfl, trivial⟩
      have e : sizeP u.val = 0 := by
        unfold sizeP
        rw [if_neg (by omega)]
      rw [e]
      exact hy9
  rintro σ' w10 ⟨hy10, hk10, hsub⟩
  refine rn_sub hsub ?_
  have h10 := h5.keep0 hk10
  obtain ⟨y, hy⟩ : ∃ y, y = (str t.text, sizeP u.val) := ⟨_, rfl⟩
  rw [← hy] at hy10 hT3
  obtain ⟨a, c, hb10, hc, ha⟩ := h10.blk
  obtain ⟨av, cv, hvv⟩ := h10.var.form
  have hkd : Keep [] w10 w10.drew := (Keep.refl _ _).drew
  refine rn_draw (fun w' => Blk w' b4 (vcell y) 57 ∧ Blk w' b (rdC (.slice a (ts.length - k) c) fin vv) 78) [10] hMix ?_
  have hS : Blk w10.drew b4 (vcell y) 57 ∧ Blk w10.drew b (rdC (.slice a (ts.length - k) c) fin vv) 78 := ⟨hkd.blk hy10 (by simp), hkd.blk hb10 (by simp)⟩
  try (first | refine dr_pure 0 hT rfl (by decide +kernel) rfl rfl rfl ?_ | refine dr_not 0 rfl (by decide +kernel) rfl rfl ?_ | refine dr_val 0 _ rfl (by decide +kernel) rfl rfl (fun w9 hS9 => val_load1 hT rfl rfl rfl (Blk.cell hS9.2 (by rfl))) hS ?_ | refine dr_yes 0 rfl (by decide +kernel) rfl rfl rfl rfl rfl (by first | (simp only [cmpP]; omega) | (simp [cmpP]; done) | (simp [cmpP]; omega)) ?_ | refine dr_no 0 rfl (by decide +kernel) rfl rfl rfl rfl rfl rfl (by first | (simp only [cmpP]; omega) | (simp [cmpP]; done) | (simp [cmpP]; omega)) ?_)
  try (first | refine dr_pure 1 hT rfl (by decide +kernel) rfl rfl rfl ?_ | refine dr_not 1 rfl (by decide +kernel) rfl rfl ?_ | refine dr_val 1 _ rfl (by decide +kernel) rfl rfl (fun w9 hS9 => val_load1 hT rfl rfl rfl (Blk.cell hS9.2 (by rfl))) hS ?_ | refine dr_yes 1 rfl (by decide +kernel) rfl rfl rfl rfl rfl (by first | (simp only [cmpP]; omega) | (simp [cmpP]; done) | (simp [cmpP]; omega)) ?_ | refine dr_no 1 rfl (by decide +kernel) rfl rfl rfl rfl rfl rfl (by first | (simp only [cmpP]; omega) | (simp [cmpP]; done) | (simp [cmpP]; omega)) ?_)
  try (first | refine dr_pure 2 hT rfl (by decide +kernel) rfl rfl rfl ?_ | refine dr_not 2 rfl (by decide +kernel) rfl rfl ?_ | refine dr_val 2 _ rfl (by decide +kernel) rfl rfl (fun w9 hS9 => val_load1 hT rfl rfl rfl (Blk.cell hS9.2 (by rfl))) hS ?_ | refine dr_yes 2 rfl (by decide +kernel) rfl rfl rfl rfl rfl (by first | (simp only [cmpP]; omega) | (simp [cmpP]; done) | (simp [cmpP]; omega)) ?_ | refine dr_no 2 rfl (by decide +kernel) rfl rfl rfl rfl rfl rfl (by first | (simp only [cmpP]; omega) | (simp [cmpP]; done) | (simp [cmpP]; omega)) ?_)
  try (first | refine dr_pure 3 hT rfl (by decide +kernel) rfl rfl rfl ?_ | refine dr_not 3 rfl (by decide +kernel) rfl rfl ?_ | refine dr_val 3 _ rfl (by decide +kernel) rfl rfl (fun w9 hS9 => val_load1 hT rfl rfl rfl (Blk.cell hS9.2 (by rfl))) hS ?_ | refine dr_yes 3 rfl (by decide +kernel) rfl rfl rfl rfl rfl (by first | (simp only [cmpP]; omega) | (simp [cmpP]; done) | (simp [cmpP]; omega)) ?_ | refine dr_no 3 rfl (by decide +kernel) rfl rfl rfl rfl rfl rfl (by first | (simp only [cmpP]; omega) | (simp [cmpP]; done) | (simp [cmpP]; omega)) ?_)
  try (first | refine dr_pure 4 hT rfl (by decide +kernel) rfl rfl rfl ?_ | refine dr_not 4 rfl (by decide +kernel) rfl rfl ?_ | refine dr_val 4 _ rfl (by decide +kernel) rfl rfl (fun w9 hS9 => val_load1 hT rfl rfl rfl (Blk.cell hS9.2 (by rfl))) hS ?_ | refine dr_yes 4 rfl (by decide +kernel) rfl rfl rfl rfl rfl (by first | (simp only [cmpP]; omega) | (simp [cmpP]; done) | (simp [cmpP]; omega)) ?_ | refine dr_no 4 rfl (by decide +kernel) rfl rfl rfl rfl rfl rfl (by first | (simp only [cmpP]; omega) | (simp [cmpP]; done) | (simp [cmpP]; omega)) ?_)
  refine dr_val 5 _ rfl (by decide +kernel) rfl rfl (fun w9 hS9 => val_load (vcell y) hT rfl rfl rfl (hS9.1.range (by rfl))) hS ?_
  refine dr_op 6 rfl (by decide +kernel) rfl rfl (opTo_sliceN _ _ rfl rfl (slice_v (.string y.1) (.int .i64 y.2)) ?_)
  intro w11 g11 hg11 hs11 hk11 hb11
  have hkd11 : Keep [] w10 w11 := hkd.tr hk11
  have hS11 : Blk w11 b4 (vcell y) 57 ∧ Blk w11 b (rdC (.slice a (ts.length - k) c) fin vv) 78 := ⟨hk11.blk hS.1 (by simp), hk11.blk hS.2 (by simp)⟩
  refine ⟨fun _ => hS11, ?_⟩
  have h11 := h10.keep0 hkd11
  have sw0 := h11.kp.size
  refine dr_op 7 rfl (by decide +kernel) rfl rfl (opTo_app w0.heap.size 57 2 24 (vs.flatMap vcell) (vcell y) rfl rfl rfl (by decide +kernel) h11.var (hb11.range (by rfl)) rfl (by intro x hx; simp only [vcell, List.mem_cons, List.not_mem_nil, or_false] at hx; rcases hx with rfl | rfl <;> rfl) (by decide) (by simp only [maxLen]; omega) (by omega) (by omega) ?_)
  intro g12 cap12 w12 hown12 hor12
  have hvw : ∀ q, vv.ownBlock = some q → q < w.heap.size := fun q hq => (h.var.lt q hq).2
  have hb4n : ∀ q, vv.ownBlock = some q → b4 ≠ q := fun q hq => by have := hvw q hq; omega
  have hbn : ∀ q, vv.ownBlock = some q → b ≠ q := fun q hq => own_ne h11.var hS11.2 (by decide) q hq
  have hS12 : Blk w12 b4 (vcell y) 57 ∧ Blk w12 b (rdC (.slice a (ts.length - k) c) fin vv) 78 := ⟨app_blk hS11.1 hb4n hor12, app_blk hS11.2 hbn hor12⟩
  have hk12 : ∃ fp : List Nat, (∀ q ∈ fp, vv.ownBlock = some q) ∧ Keep fp w11 w12 := by
    rcases hor12 with ⟨h1, _, h2⟩ | ⟨_, h2, _⟩
    · exact ⟨[g12], by simp [h1], h2⟩
    · exact ⟨[], by simp, h2⟩
  obtain ⟨fp, hfp, hk12⟩ := hk12
  refine ⟨fun _ => hS12, ?_⟩
  refine dr_pure 8 hT rfl (by decide +kernel) rfl rfl rfl ?_
  refine dr_pure 9 hT rfl (by decide +kernel) rfl rfl rfl ?_
  refine dr_op 10 rfl (by decide +kernel) rfl rfl (opTo_storeN [.slice (some ⟨g12, 0, none⟩) (vs.length + 1) cap12] rfl rfl rfl rfl size_vs hS12.2 (by simp [rdC]) (by simp; rfl) ?_)
  intro w13 hs13 hk13 hb13
  have hsp : splice (rdC (.slice a (ts.length - k) c) fin vv) 2 [.slice (some ⟨g12, 0, none⟩) (vs.length + 1) cap12] = rdC (.slice a (ts.length - k) c) fin (.slice (some ⟨g12, 0, none⟩) (vs.length + 1) cap12) := rfl
  rw [hsp] at hb13
  refine ⟨fun h => absurd (by simp) h, ?_⟩
  refine dr_done (by decide +kernel) ?_
  refine rn_end Tryz.func62 (.inr (.inl ⟨rfl, rfl⟩)) ⟨(y, k), hT3, ⟨.slice (some ⟨g12, 0, none⟩) (vs.length + 1) cap12, ?_⟩, b :: fp, ?_, ?_⟩
  · have hnew := h.new
    refine ⟨h11.le, ?_, hnew, ?_, ?_, ⟨a, c, hb13, hc, ha⟩⟩
    · refine (h11.kp.trans hk12 (fun q hq => .inr ?_)).trB hk13 hnew
      exact (h11.var.lt q (hfp q hq)).1
    · obtain ⟨Bt, ho⟩ := h11.tok
      refine ⟨Bt, ?_⟩
      have ho12 : Own w12 Bt 71 4 lv ts.length (ts.flatMap tokL) := by
        refine ho.keep hk12 (fun q hq hm => ?_)
        have hvq := hfp q hm
        rcases h11.var.2 with ⟨hv, _⟩ | ⟨g', c', cur', hv, _, hg', _⟩
        · rw [hv] at hvq; simp [Value.ownBlock] at hvq
        · rw [hv] at hvq
          simp [Value.ownBlock] at hvq
          subst hvq
          exact own_ne ho hg' (by decide) _ hq rfl
      exact ho12.keep hk13 (fun q hq => by simp; exact fun e => own_ne ho12 hS12.2 (by decide) q hq e.symm)
    · have e1 : (vs ++ [y]).length = vs.length + 1 := by simp
      have e2 : (vs ++ [y]).flatMap vcell = vs.flatMap vcell ++ vcell y := by simp
      rw [e1, e2]
      exact hown12.keep hk13 (fun q hq => by simp; exact fun e => own_ne hown12 hS12.2 (by decide) q hq e.symm)
  · intro q hq
    rcases List.mem_cons.1 hq with rfl | hq
    · exact .inl rfl
    · exact .inr (hfp q hq)
  · have hk0 : Keep (b :: fp) w w10 := ((hk04.tr hk5).tr0 hk10).mono (fun q hq => .inl (by simp at hq; simp [hq]))
    exact ((hk0.tr0 hkd11).trans hk12 (fun q hq => .inl (List.mem_cons_of_mem _ hq))).trans hk13 (fun q hq => .inl (by simp at hq; simp [hq]))
end
end E
end Go.Proofs.YthbkcadiejfgaacGreatDoor

/- The landed reader: a program; a reader that gave up is caught; Parse. -/
namespace Go.Proofs.YthbkcadiejfgaacGreatDoor
set_option maxRecDepth 20000
set_option maxHeartbeats 4000000
namespace E
open Go.Proofs

theorem built_pr (a a' : Option Addr) (n c n' c' : Nat) : Tryz.prog.built 26 [(0, .slice a n c), (1, .slice a' n' c')] = some [Value.slice a n c, .slice a' n' c'].toArray := by kernel_rfl

/-- A program that was made since w0. -/
def PgR (w0 w' : World) (r : Value) (vs : List VarT) (body : List ST) : Prop := CapV r ∧ ∃ F : Nat → Prop, ProgV F w' r vs body ∧ ∀ c, F c → w0.heap.size ≤ c ∧ c < w'.heap.size
theorem PgR.keep {w0 w w' : World} {r : Value} {vs : List VarT} {body : List ST} {fp : List Nat} (h : PgR w0 w r vs body) (hk : Keep fp w w') (hfp : ∀ c ∈ fp, c < w0.heap.size) : PgR w0 w' r vs body := by
  obtain ⟨h1, F, h2, h3⟩ := h
  exact ⟨h1, F, h2.keep hk (fun c hc => ⟨(h3 c hc).2, fun hm => by have := hfp c hm; have := (h3 c hc).1; omega⟩), fun c hc => ⟨(h3 c hc).1, Nat.lt_of_lt_of_le (h3 c hc).2 hk.size⟩⟩

section
variable {w0 w w' : World} {lv vv : Value} {ts : List Tok} {fin b i : Nat} {vs : List VarT}
theorem letP_lt : ∀ (i : Nat) (r : VarT × Nat), letP ts fin i = .ok r → i < r.2 ∧ r.2 ≤ ts.length := fun _ _ h => letP_ok h

theorem program_end (hct : Ct ts) (hw0 : Lw w0) (h : Rd w0 lv ts fin b (.slice none 0 0) [] w 0) :
    Goes 33 [.pointer (some ⟨b, 0, none⟩)] w0 w (readP ts fin) fun q r w' => PgR w0 w' r q.1 q.2 ∧ Keep [] w0 w' := by
  have hlen := hct.len
  have hbw := h.lt
  refine end_of 17 Tryz.func33 rfl rfl (by simp) ?_
  (repeat (first | refine pl_pure hT rfl rfl rfl ?_ | refine pl_nil ?_ | refine rn_seq ?_ | refine rn_plain ?_ | refine rn_block ?_ | refine rn_inBlock ?_ | refine rn_skip ?_ | refine rn_true rfl ?_ | refine rn_false rfl ?_ | refine rn_exit rfl ?_ | refine pl_not rfl rfl ?_))
  refine pl_op rfl rfl (opTo_boxN [.pointer (some ⟨b, 0, none⟩)] rfl rfl rfl ?_)
  intro w1 bx hbx hs1 hk1 hx1
  refine pl_op rfl rfl (opTo_allocN _ rfl zero_pr ?_)
  intro w2 b2 hb20 hs2 hk2 hz2
  have hk02 := hk1.tr hk2
  have h2 := h.keep0 hk02
  have hx2 := hk2.blk hx1 (by simp)
  obtain ⟨TOT, hTOT⟩ : ∃ TOT, TOT = readP ts fin := ⟨_, rfl⟩
  rw [← hTOT]
  have hT0 : TOT = bnd (untilP (fun j => !isT ts j letT) (letP ts fin) (ts.length + 1 - 0) 0) fun (r, k) => bnd (bodyP ts fin ([] ++ r) k) fun (b, _) => .ok ([] ++ r, b) := by
    rw [hTOT]
    rfl
  have hw0w : w0.heap.size ≤ w.heap.size := h.kp.size
  (repeat (first | refine pl_pure hT rfl rfl rfl ?_ | refine pl_nil ?_ | refine rn_seq ?_ | refine rn_plain ?_ | refine rn_block ?_ | refine rn_inBlock ?_ | refine rn_skip ?_ | refine rn_true rfl ?_ | refine rn_false rfl ?_ | refine rn_exit rfl ?_ | refine pl_not rfl rfl ?_))
  refine rn_ind (fun m σ w' => ∃ (j : Nat) (vs : List VarT) (vv : Value), m = ts.length + 1 - j ∧ σ = [(1, .pointer (some ⟨bx, 0, none⟩)), (2, .pointer (some ⟨b2, 0, none⟩))] ∧
    TOT = bnd (untilP (fun j => !isT ts j letT) (letP ts fin) (ts.length + 1 - j) j) (fun (r, k) => bnd (bodyP ts fin (vs ++ r) k) fun (b, _) => .ok (vs ++ r, b)) ∧ vs.length ≤ j ∧ Rd w0 lv ts fin b vv vs w' j ∧
    Blk w' bx [.pointer (some ⟨b, 0, none⟩)] 76 ∧ Blk w' b2 pz 26) _ _ ?_ ⟨0, [], .slice none 0 0, rfl, rfl, hT0, Nat.le_refl _, h2, hx2, hz2⟩ ?_
  · exact ⟨rfl, rfl, trivial⟩
  rintro m σ w3 ih ⟨j, vs, vv, rfl, rfl, hT3, hvj, h3, hx3, hz3⟩
  have hjl := h3.le
  (repeat (first | refine pl_pure hT rfl rfl rfl ?_ | refine pl_nil ?_ | refine rn_seq ?_ | refine rn_plain ?_ | refine rn_block ?_ | refine rn_inBlock ?_ | refine rn_skip ?_ | refine rn_true rfl ?_ | refine rn_false rfl ?_ | refine rn_exit rfl ?_ | refine pl_not rfl rfl ?_))
  refine pl_val _ rfl rfl (val_load1 hT rfl rfl rfl (hx3.cell rfl)) ?_
  refine pl_op rfl rfl (opTo_call (fst := []) (cap := []) rfl rfl rfl rfl (by decide +kernel) ((stands_ret hct h3 letT (by decide)).mono ?_))
  rintro r w4 ⟨rfl, rfl⟩
  have hu : untilP (fun j => !isT ts j letT) (letP ts fin) (ts.length + 1 - j) j = if (!isT ts j letT) = true then .ok ([], j) else bnd (letP ts fin j) fun (t, k) => bnd (untilP (fun j => !isT ts j letT) (letP ts fin) (ts.length - j) k) fun (r, k) => .ok (t :: r, k) := by
    have e : ts.length + 1 - j = (ts.length - j) + 1 := by omega
    rw [e]
    rfl
  obtain ⟨q, hq⟩ : ∃ q, q = isT ts j letT := ⟨_, rfl⟩
  rw [← hq] at hu ⊢
  cases q with
  | true =>
    rw [if_neg (by decide)] at hu
    have hT4 : TOT = bnd (letP ts fin j) fun q => bnd (untilP (fun j => !isT ts j letT) (letP ts fin) (ts.length + 1 - q.2) q.2) (fun (r, k) => bnd (bodyP ts fin ((vs ++ [q.1]) ++ r) k) fun (b, _) => .ok ((vs ++ [q.1]) ++ r, b)) := by
      rw [hT3, hu]
      cases hc : letP ts fin j with
      | error e => rfl
      | ok q =>
        obtain ⟨t, j'⟩ := q
        have h1 := letP_ok hc
        dsimp only at h1
        show bnd (bnd (untilP _ (letP ts fin) (ts.length - j) j') _) _ = bnd (untilP _ (letP ts fin) (ts.length + 1 - j') j') _
        rw [untilP_fuel letP_lt (ts.length - j) (ts.length + 1 - j') j' h1.2 (by omega) (by omega)]
        cases untilP (fun j => !isT ts j letT) (letP ts fin) (ts.length + 1 - j') j' with
        | error e => rfl
        | ok q =>
          obtain ⟨r', k'⟩ := q
          show bnd (bodyP ts fin (vs ++ t :: r') k') _ = bnd (bodyP ts fin (vs ++ [t] ++ r') k') _
          rw [show vs ++ t :: r' = vs ++ [t] ++ r' by simp]
    (repeat (first | refine pl_pure hT rfl rfl rfl ?_ | refine pl_nil ?_ | refine rn_seq ?_ | refine rn_plain ?_ | refine rn_block ?_ | refine rn_inBlock ?_ | refine rn_skip ?_ | refine rn_true rfl ?_ | refine rn_false rfl ?_ | refine rn_exit rfl ?_ | refine pl_not rfl rfl ?_))
    refine pl_val _ rfl rfl (val_load1 hT rfl rfl rfl (hx3.cell rfl)) ?_
    refine pl_opE Tryz.func33 rfl rfl (opE_call (fst := []) (cap := []) rfl rfl rfl rfl (by decide +kernel) (End.mono (let_end hct (by omega) h3 hq.symm) ?_ ?_))
    rotate_left
    · rintro x w5 ⟨e, hX, r⟩
      exact ⟨e, by rw [hT4, hX]; rfl, r⟩
    rintro r w5 ⟨⟨y, j'⟩, hX, ⟨vv', h5⟩, fp, hfp, hk5⟩
    have hlt := letP_ok hX
    dsimp only at hlt
    rw [hX] at hT4
    obtain ⟨a0, c0, hb0, _⟩ := h3.blk
    have hx5 := hk5.blk hx3 (fun hm => (hfp bx hm).elim (fun e => hx3.ne hb0 (by decide) e) fun e => own_ne h3.var hx3 (by decide) bx e rfl)
    have hz5 := hk5.blk hz3 (fun hm => (hfp b2 hm).elim (fun e => hz3.ne hb0 (by decide) e) fun e => own_ne h3.var hz3 (by decide) b2 e rfl)
    (repeat (first | refine pl_pure hT rfl rfl rfl ?_ | refine pl_nil ?_ | refine rn_seq ?_ | refine rn_plain ?_ | refine rn_block ?_ | refine rn_inBlock ?_ | refine rn_skip ?_ | refine rn_true rfl ?_ | refine rn_false rfl ?_ | refine rn_exit rfl ?_ | refine pl_not rfl rfl ?_))
    refine rn_sub ?_ (ih _ _ _ ?_ ⟨j', vs ++ [y], vv', rfl, rfl, hT4, by simp; omega, h5, hx5, hz5⟩)
    · exact ⟨rfl, rfl, trivial⟩
    · omega
  | false =>
    rw [if_pos (by decide)] at hu
    have hT4 : TOT = bnd (bodyP ts fin vs j) fun (b, _) => .ok (vs, b) := by
      rw [hT3, hu]
      show bnd (bodyP ts fin (vs ++ []) j) _ = _
      rw [List.append_nil]
    unfold bodyP at hT4
    (repeat (first | refine pl_pure hT rfl rfl rfl ?_ | refine pl_nil ?_ | refine rn_seq ?_ | refine rn_plain ?_ | refine rn_block ?_ | refine rn_inBlock ?_ | refine rn_skip ?_ | refine rn_true rfl ?_ | refine rn_false rfl ?_ | refine rn_exit rfl ?_ | refine pl_not rfl rfl ?_))
    refine pl_val _ rfl rfl (val_load1 hT rfl rfl rfl (hx3.cell rfl)) ?_
    (repeat (first | refine pl_pure hT rfl rfl rfl ?_ | refine pl_nil ?_ | refine rn_seq ?_ | refine rn_plain ?_ | refine rn_block ?_ | refine rn_inBlock ?_ | refine rn_skip ?_ | refine rn_true rfl ?_ | refine rn_false rfl ?_ | refine rn_exit rfl ?_ | refine pl_not rfl rfl ?_))
    refine pl_opE Tryz.func33 rfl rfl (opE_call (fst := []) (cap := []) rfl rfl rfl rfl (by decide +kernel) (End.mono (stmts_end (deep := 0) (stop := fun j => decide (ts.length ≤ j)) (one := stmtP ts fin vs 13) (g := 64) (bx := bx) hct (by decide +kernel) (stmtP_ok vs 13) (fun i w h => stmt_end hct hw0 (by omega) 13 0 i rfl h) (fun i w h hx => atEnd_ret h hx) h3 hx3) ?_ ?_))
    rotate_left
    · rintro x w5 ⟨e, hX, r⟩
      exact ⟨e, by rw [hT4, hX]; rfl, r⟩
    rintro r w5 ⟨⟨body, j'⟩, hX, ⟨⟨a, n, c, rfl, hnc⟩, F, hF1, hF2⟩, h5, hk5⟩
    rw [hX] at hT4
    have hT5 : TOT = .ok (vs, body) := hT4
    obtain ⟨a0, c0, hb0, _⟩ := h3.blk
    have hx5 := hk5.blk hx3 (by simp; exact fun e => hx3.ne hb0 (by decide) e)
    have hz5 := hk5.blk hz3 (by simp; exact fun e => hz3.ne hb0 (by decide) e)
    obtain ⟨a5, c5, hb5, _⟩ := h5.blk
    obtain ⟨av, cv, rfl⟩ := h5.var.form
    (repeat (first | refine pl_pure hT rfl rfl rfl ?_ | refine pl_nil ?_ | refine rn_seq ?_ | refine rn_plain ?_ | refine rn_block ?_ | refine rn_inBlock ?_ | refine rn_skip ?_ | refine rn_true rfl ?_ | refine rn_false rfl ?_ | refine rn_exit rfl ?_ | refine pl_not rfl rfl ?_))
    refine pl_val _ rfl rfl (val_load1 hT rfl rfl rfl (hx5.cell rfl)) ?_
    (repeat (first | refine pl_pure hT rfl rfl rfl ?_ | refine pl_nil ?_ | refine rn_seq ?_ | refine rn_plain ?_ | refine rn_block ?_ | refine rn_inBlock ?_ | refine rn_skip ?_ | refine rn_true rfl ?_ | refine rn_false rfl ?_ | refine rn_exit rfl ?_ | refine pl_not rfl rfl ?_))
    refine pl_val _ rfl rfl (val_load1 hT rfl rfl rfl (hb5.cell rfl)) ?_
    (repeat (first | refine pl_pure hT rfl rfl rfl ?_ | refine pl_nil ?_ | refine rn_seq ?_ | refine rn_plain ?_ | refine rn_block ?_ | refine rn_inBlock ?_ | refine rn_skip ?_ | refine rn_true rfl ?_ | refine rn_false rfl ?_ | refine rn_exit rfl ?_ | refine pl_not rfl rfl ?_))
    refine pl_val _ rfl rfl (val_build _ rfl rfl (built_pr av a vs.length cv n c) w5) ?_
    refine pl_op rfl rfl (opTo_storeN [.slice av vs.length cv, .slice a n c] rfl rfl rfl rfl size_pr hz5 (by simp [pz]) (one_pr _ _ _ _ _ _) ?_)
    intro w6 hs6 hk6 hz6
    rw [splice_whole (by rfl)] at hz6
    (repeat (first | refine pl_pure hT rfl rfl rfl ?_ | refine pl_nil ?_ | refine rn_seq ?_ | refine rn_plain ?_ | refine rn_block ?_ | refine rn_inBlock ?_ | refine rn_skip ?_ | refine rn_true rfl ?_ | refine rn_false rfl ?_ | refine rn_exit rfl ?_ | refine pl_not rfl rfl ?_))
    have hb2w : w0.heap.size ≤ b2 := by have := hk1.size; omega
    have h6 := h5.put hz5 hb2w hk6 (by decide)
    have s3 : b2 < w4.heap.size := hz3.lt
    have hF6 : StmtsV F w6 (.slice a n c) body := hF1.keep hk6 (fun k hk => ⟨(hF2 k hk).2, by simp; have := (hF2 k hk).1; omega⟩)
    have hv6 := vars_own h6.var
    refine rn_ret Tryz.func33 (.inr (.inr (.inl ⟨_, _, _, rfl, rfl, blk_loadVar hT hz6 rfl⟩))) ⟨(vs, body), hT5, ⟨⟨_, a, n, c, rfl, hnc⟩, fun k => (Value.slice av vs.length cv).ownBlock = some k ∨ F k, ⟨_, _, rfl, hv6.mono fun k hk => .inl hk, hF6.mono fun k hk => .inr hk⟩, ?_⟩, h6.kp⟩
    rintro k (hk | hk)
    · exact h6.var.lt k hk
    · have := hF2 k hk
      have := h3.kp.size
      have := hk6.size
      omega
end

/-! ### Caught -/
section
variable {P : Program} {n : Nat} {σ : Env} {o : Oper}
theorem val_assert {t xt : TypeId} {x : Operand} {u : Value} (hs : isStruct P t = true) (ho : o.op = .typeAssert x xt t false) (hx : ev σ x = some (.iface t u)) (w : World) : Val P n σ o w u := by
  intro a ha
  unfold isStruct at hs
  split at hs
  · rename_i fs hu
    simp [execOp, ho, ha.eval hx, Instr.typeAssert, run_underlying hu]
  · cases hs
end
theorem CallsD.mono' {P : Program} {f : FuncId} {args : Array Value} {u : FrameMode} {w : World} {R R' : Ending → FrameMode → World → Prop} (h : CallsD P f args u w R) (hr : ∀ e u' w', R e u' w' → R' e u' w') : CallsD P f args u w R' := fun c cs hc => by
  obtain ⟨e, u', w', fr, h1, h2⟩ := h c cs hc
  exact ⟨e, u', w', fr, hr e u' w' h1, h2⟩

theorem caught {w : World} {b5 : Nat} (hb : Blk w b5 [.int .i64 0, .int .i64 0] 28) (e : Flt) :
    CallsD Tryz.prog 32 [Value.pointer (some ⟨b5, 0, none⟩)].toArray (.panicking (pan (gvV e))) w fun en u' w' => en = .returned (.tuple #[]) ∧ u' = .panicking [{ v := gvV e, recovered := true }] ∧ Blk w' b5 [.int .i64 e.1, .int .i64 e.2] 28 ∧ Keep [b5] w w' := by
  refine callsD_of 8 Tryz.func32 rfl rfl (by simp) ?_
  refine rnD_seq ?_
  refine rnD_recover (gvV e) rfl rfl rfl (fun a ha => rfl) ?_
  (repeat (first | refine pl_pure hT rfl rfl rfl ?_ | refine pl_nil ?_ | refine rn_seq ?_ | refine rn_plain ?_ | refine rn_block ?_ | refine rn_inBlock ?_ | refine rn_skip ?_ | refine rn_true rfl ?_ | refine rn_false rfl ?_ | refine rn_exit rfl ?_ | refine pl_not rfl rfl ?_))
  refine pl_val _ rfl rfl (val_errSome _ _ (by decide +kernel) rfl rfl w) ?_
  (repeat (first | refine pl_pure hT rfl rfl rfl ?_ | refine pl_nil ?_ | refine rn_seq ?_ | refine rn_plain ?_ | refine rn_block ?_ | refine rn_inBlock ?_ | refine rn_skip ?_ | refine rn_true rfl ?_ | refine rn_false rfl ?_ | refine rn_exit rfl ?_ | refine pl_not rfl rfl ?_))
  refine pl_val _ rfl rfl (val_assert (by decide +kernel) rfl rfl w) ?_
  refine pl_val _ rfl rfl (val_fieldAgg 0 [.int .i64 e.1, .int .i64 e.2] [.int .i64 e.1, .int .i64 e.2] rfl rfl (m := 2) (by decide +kernel) rfl w) ?_
  refine pl_op rfl rfl (opTo_storeN [.int .i64 e.1, .int .i64 e.2] rfl rfl rfl rfl size_fault hb (by simp) (one_fault _ _) ?_)
  intro w1 hs1 hk1 hb1
  rw [splice_whole (by rfl)] at hb1
  (repeat (first | refine pl_pure hT rfl rfl rfl ?_ | refine pl_nil ?_ | refine rn_seq ?_ | refine rn_plain ?_ | refine rn_block ?_ | refine rn_inBlock ?_ | refine rn_skip ?_ | refine rn_true rfl ?_ | refine rn_false rfl ?_ | refine rn_exit rfl ?_ | refine pl_not rfl rfl ?_))
  exact rn_endX Tryz.func32 rfl (.inr (.inl ⟨rfl, rfl⟩)) ⟨rfl, rfl, hb1, hk1⟩
theorem uncaught (w : World) (b5 : Nat) :
    CallsD Tryz.prog 32 [Value.pointer (some ⟨b5, 0, none⟩)].toArray .returning w fun en u' w' => en = .returned (.tuple #[]) ∧ u' = .returning ∧ w' = w := by
  refine callsD_of 8 Tryz.func32 rfl rfl (by simp) ?_
  refine rnD_seq ?_
  refine rnD_norec rfl rfl rfl (fun a ha => rfl) ?_
  (repeat (first | refine pl_pure hT rfl rfl rfl ?_ | refine pl_nil ?_ | refine rn_seq ?_ | refine rn_plain ?_ | refine rn_block ?_ | refine rn_inBlock ?_ | refine rn_skip ?_ | refine rn_true rfl ?_ | refine rn_false rfl ?_ | refine rn_exit rfl ?_ | refine pl_not rfl rfl ?_))
  refine pl_val _ rfl rfl (val_errNil (by decide +kernel) rfl rfl w) ?_
  (repeat (first | refine pl_pure hT rfl rfl rfl ?_ | refine pl_nil ?_ | refine rn_seq ?_ | refine rn_plain ?_ | refine rn_block ?_ | refine rn_inBlock ?_ | refine rn_skip ?_ | refine rn_true rfl ?_ | refine rn_false rfl ?_ | refine rn_exit rfl ?_ | refine pl_not rfl rfl ?_))
  exact rn_endX Tryz.func32 rfl (.inr (.inl ⟨rfl, rfl⟩)) ⟨rfl, rfl, rfl⟩
end E
end Go.Proofs.YthbkcadiejfgaacGreatDoor

/- The landed package: read, Parse; what the laws take of it. -/
namespace Go.Proofs.YthbkcadiejfgaacGreatDoor
set_option maxRecDepth 20000
set_option maxHeartbeats 4000000
namespace E
open Go.Proofs

theorem built_rd (a : Option Addr) (n c : Nat) (fin : Int) : Tryz.prog.built 78 [(0, .slice a n c), (1, .int .i64 fin)] = some [Value.slice a n c, .int .i64 fin, .slice none 0 0].toArray := by kernel_rfl

theorem read_ret {w : World} {B : Nat} {lv : Value} {ts : List Tok} (fin : Nat) (hct : Ct ts) (hw : Lw w) (hl : Own w B 71 4 lv ts.length (ts.flatMap tokL)) :
    Ret Tryz.prog 17 [lv, .int .i64 (fin : Nat)] w fun r w' => (∃ x, r = .tuple #[x, .agg #[.int .i64 (fltOf (readP ts fin)).1, .int .i64 (fltOf (readP ts fin)).2]] ∧ PgR w w' x (prgOf (readP ts fin)).1 (prgOf (readP ts fin)).2) ∧ Keep [] w w' := by
  obtain ⟨al, cl, rfl⟩ := hl.form
  refine ret_of 15 Tryz.func17 rfl rfl (by simp) ?_
  (repeat (first | refine pl_pure hT rfl rfl rfl ?_ | refine pl_nil ?_ | refine rn_seq ?_ | refine rn_plain ?_ | refine rn_block ?_ | refine rn_inBlock ?_ | refine rn_skip ?_ | refine rn_true rfl ?_ | refine rn_false rfl ?_ | refine rn_exit rfl ?_ | refine pl_not rfl rfl ?_))
  refine pl_op rfl rfl (opTo_allocN _ rfl zero_pr ?_)
  intro w1 b4 hb40 hs1 hk1 hp1
  refine pl_op rfl rfl (opTo_allocN _ rfl zero_fault ?_)
  intro w2 b5 hb50 hs2 hk2 hf2
  have hp2 := hk2.blk hp1 (by simp)
  have hk02 := hk1.tr hk2
  (repeat (first | refine pl_pure hT rfl rfl rfl ?_ | refine pl_nil ?_ | refine rn_seq ?_ | refine rn_plain ?_ | refine rn_block ?_ | refine rn_inBlock ?_ | refine rn_skip ?_ | refine rn_true rfl ?_ | refine rn_false rfl ?_ | refine rn_exit rfl ?_ | refine pl_not rfl rfl ?_))
  refine pl_defer (d := ⟨.fn (.func 32) #[.pointer (some ⟨b5, 0, none⟩)], #[]⟩) rfl rfl (fun a ha => ?_) ?_
  · have := ha.has 7 _ rfl
    simp [execOp, resolve, Act.eval, this, Deferred.ofValue]
  (repeat (first | refine pl_pure hT rfl rfl rfl ?_ | refine pl_nil ?_ | refine rn_seq ?_ | refine rn_plain ?_ | refine rn_block ?_ | refine rn_inBlock ?_ | refine rn_skip ?_ | refine rn_true rfl ?_ | refine rn_false rfl ?_ | refine rn_exit rfl ?_ | refine pl_not rfl rfl ?_))
  refine pl_val _ rfl rfl (val_build _ rfl rfl (built_rd al ts.length cl (fin : Nat)) w2) ?_
  refine pl_op rfl rfl (opTo_boxN (rdC (.slice al ts.length cl) fin (.slice none 0 0)) rfl rfl rfl ?_)
  intro w3 b hb0 hs3 hk3 hz3
  (repeat (first | refine pl_pure hT rfl rfl rfl ?_ | refine pl_nil ?_ | refine rn_seq ?_ | refine rn_plain ?_ | refine rn_block ?_ | refine rn_inBlock ?_ | refine rn_skip ?_ | refine rn_true rfl ?_ | refine rn_false rfl ?_ | refine rn_exit rfl ?_ | refine pl_not rfl rfl ?_))
  have hl3 := hl.keep (hk02.tr hk3) (by simp)
  have h3 : Rd w2 (.slice al ts.length cl) ts fin b (.slice none 0 0) [] w3 0 := by
    refine ⟨Nat.zero_le _, hk3, by omega, ⟨B, hl3⟩, Own.nil _ _ _ _, ⟨al, cl, by rw [Nat.sub_zero]; exact hz3, by rw [Nat.sub_zero]; exact own_cap hl, fun h0 => ?_⟩⟩
    rcases hl.2 with ⟨_, h2⟩ | ⟨g, cap, cur, h1, _⟩
    · omega
    · injection h1 with h1 _ h2
      subst h1 h2
      exact ⟨g, _, rfl, rfl⟩
  refine pl_opD Tryz.func17 rfl rfl rfl (opE_call (fst := []) (cap := []) rfl rfl rfl rfl (by decide +kernel) (End.mono (program_end hct (hw.keep hk02) h3) ?_ ?_))
  · rintro r w4 ⟨⟨vs, body⟩, hX, hP, hk4⟩
    obtain ⟨⟨vv, a, n, c, rfl, hnc⟩, _⟩ := hP.1, hP
    obtain ⟨F, ⟨vv', bv', he, hv, _⟩, _⟩ := hP.2
    have hvv : vv = vv' := by
      injection he with he
      have := congrArg Array.toList he
      simp at this
      exact this.1
    subst hvv
    obtain ⟨av, cv, rfl⟩ := hv.form
    have hp4 := hk4.blk hp2 (by simp)
    have hf4 := hk4.blk hf2 (by simp)
    refine pl_val _ rfl rfl (val_build _ rfl rfl built_fault0 w4) ?_
    refine pl_op rfl rfl (opTo_storeN [.slice av vs.length cv, .slice a n c] rfl rfl rfl rfl size_pr hp4 (by simp [pz]) (one_pr _ _ _ _ _ _) ?_)
    intro w5 hs5 hk5 hp5
    rw [splice_whole (by rfl)] at hp5
    have hf5 := hk5.blk hf4 (by simp; omega)
    refine pl_op rfl rfl (opTo_storeN [.int .i64 0, .int .i64 0] rfl rfl rfl rfl size_fault hf5 (by simp) (one_fault _ _) ?_)
    intro w6 hs6 hk6 hf6
    rw [splice_whole (by rfl)] at hf6
    have hp6 := hk6.blk hp5 (by simp; omega)
    (repeat (first | refine pl_pure hT rfl rfl rfl ?_ | refine pl_nil ?_ | refine rn_seq ?_ | refine rn_plain ?_ | refine rn_block ?_ | refine rn_inBlock ?_ | refine rn_skip ?_ | refine rn_true rfl ?_ | refine rn_false rfl ?_ | refine rn_exit rfl ?_ | refine pl_not rfl rfl ?_))
    refine rn_retD Tryz.func17 rfl (fun ac ha => ⟨fun h => (by cases h), .func 32, _, 32, [Value.pointer (some ⟨b5, 0, none⟩)].toArray, rfl, rfl, ?_⟩)
    refine CallsD.mono' (uncaught w6 b5) ?_
    rintro e u' w7 ⟨rfl, rfl, rfl⟩
    refine ⟨.tuple #[.agg #[.slice av vs.length cv, .slice a n c], .agg #[.int .i64 0, .int .i64 0]], ?_, .inl ⟨_, rfl, ⟨.agg #[.slice av vs.length cv, .slice a n c], ?_, ?_⟩, ?_⟩⟩
    · have i4 := ha.has 4 _ rfl
      have i5 := ha.has 5 _ rfl
      have l4 := blk_loadVar (t := 26) hT hp6 rfl
      have l5 := blk_loadVar (t := 28) hT hf6 rfl
      show (results Tryz.f17 ac.tmps).run _ _ = _
      simp only [results, show Tryz.f17.results = #[.cell 4 26, .cell 5 28] from rfl]
      simp [i4, i5, asAddr, l4, l5]
    · rw [hX]
      rfl
    · rw [hX]
      have hP6 : PgR w2 w7 (.agg #[.slice av vs.length cv, .slice a n c]) vs body := (hP.keep hk5 (by simp; omega)).keep hk6 (by simp; omega)
      obtain ⟨h1, F, h2, h3⟩ := hP6
      exact ⟨h1, F, h2, fun c hc => by have := h3 c hc; have := hk02.size; omega⟩
    · exact ((hk02.tr hk4).trB hk5 (by omega)).trB hk6 (by omega)
  · rintro v w4 ⟨e, hX, rfl, hk4⟩
    intro ac ha
    have hp4 := hk4.blk hp2 (by simp)
    have hf4 := hk4.blk hf2 (by simp)
    refine ⟨fun h => (by cases h), .func 32, _, 32, [Value.pointer (some ⟨b5, 0, none⟩)].toArray, rfl, rfl, ?_⟩
    refine CallsD.mono' (caught hf4 e) ?_
    rintro en u' w5 ⟨rfl, rfl, hf5, hk5⟩
    have hp5 := hk5.blk hp4 (by simp; omega)
    refine ⟨.tuple #[.agg pz.toArray, .agg #[.int .i64 e.1, .int .i64 e.2]], ?_, .inl ⟨_, rfl, ⟨.agg pz.toArray, ?_, ?_⟩, ?_⟩⟩
    · have i4 := ha.has 4 _ rfl
      have i5 := ha.has 5 _ rfl
      have l4 := blk_loadVar (t := 26) hT hp5 rfl
      have l5 := blk_loadVar (t := 28) hT hf5 rfl
      show (results Tryz.f17 ac.tmps).run _ _ = _
      simp only [results, show Tryz.f17.results = #[.cell 4 26, .cell 5 28] from rfl]
      simp [i4, i5, asAddr, l4, l5]
    · rw [hX]
      rfl
    · rw [hX]
      exact ⟨capV_nil, fun _ => False, progV_nil, fun c hc => hc.elim⟩
    · exact (hk02.tr hk4).trB hk5 (by omega)

theorem scan_ct {l : List UInt8} (h : (faultOf l).1 = 0) : Ct (toksOf l) ∧ l.length ≤ 6000 ∧ (toksOf l).length ≤ 6000 := by
  obtain ⟨h1, h2, h3, _⟩ := scan_good h
  refine ⟨⟨by omega, ?_⟩, h1, by omega⟩
  rcases fault_cases l h1 with ⟨e, h4, _⟩ | ⟨ts, h4, _, h5⟩
  · rw [h4] at h; cases h
  · rw [h5]
    exact (toks_fine _ _ _ _ h4).1
theorem readP_size {ts : List Tok} {fin : Nat} {vs : List VarT} {body : List ST} (h : readP ts fin = .ok (vs, body)) : szSs body ≤ 3 * ts.length := by
  unfold readP at h
  obtain ⟨⟨vs', i⟩, ha, h⟩ := bnd_ok h
  obtain ⟨⟨b', j⟩, hb, h⟩ := bnd_ok h
  injection h with h
  injection h with h1 h2
  subst h1 h2
  have hi := (untilP_ok (fun i r hr => letP_ok hr) _ _ _ (Nat.zero_le _) ha).2.1
  have hj := (untilP_ok (fun i r hr => stmtP_ok vs' 13 i r hr) _ _ _ hi hb).2.1
  have hs := untilP_size (stmtP_size vs' 13) _ _ _ hb
  dsimp only at hi hj hs
  omega

theorem parse_ret (l : List UInt8) (hl : l.length ≤ 100000) {w : World} (hw : Lw w) : Ret Tryz.prog 6 [.string (str l)] w fun r w' => ParR w w' r (parseOf l) ∧ Keep [] w w' := by
  refine ret_of 39 Tryz.func6 rfl rfl (by simp) ?_
  (repeat (first | refine pl_pure hT rfl rfl rfl ?_ | refine pl_nil ?_ | refine rn_seq ?_ | refine rn_plain ?_ | refine rn_block ?_ | refine rn_inBlock ?_ | refine rn_skip ?_ | refine rn_true rfl ?_ | refine rn_false rfl ?_ | refine rn_exit rfl ?_ | refine pl_not rfl rfl ?_))
  refine pl_op rfl rfl (opTo_allocN _ rfl zero_pr ?_)
  intro w1 b2 hb20 hs1 hk1 hp1
  refine pl_op rfl rfl (opTo_allocN _ rfl zero_fault ?_)
  intro w2 b3 hb30 hs2 hk2 hf2
  have hp2 := hk2.blk hp1 (by simp)
  have hk02 := hk1.tr hk2
  (repeat (first | refine pl_pure hT rfl rfl rfl ?_ | refine pl_nil ?_ | refine rn_seq ?_ | refine rn_plain ?_ | refine rn_block ?_ | refine rn_inBlock ?_ | refine rn_skip ?_ | refine rn_true rfl ?_ | refine rn_false rfl ?_ | refine rn_exit rfl ?_ | refine pl_not rfl rfl ?_))
  refine pl_op rfl rfl (opTo_call (fst := []) (cap := []) rfl rfl rfl rfl (by decide +kernel) ((scan_ret l (by omega) (hw.keep hk02)).mono ?_))
  rintro r w3 ⟨lv, rfl, hown3, hk3⟩
  have hk03 := hk02.tr hk3
  obtain ⟨al, cl, rfl⟩ := hown3.form
  obtain ⟨⟨fa, fb⟩, hfl⟩ : ∃ f, f = faultOf l := ⟨_, rfl⟩
  rw [← hfl]
  (repeat (first | refine pl_pure hT rfl rfl rfl ?_ | refine pl_nil ?_ | refine rn_seq ?_ | refine rn_plain ?_ | refine rn_block ?_ | refine rn_inBlock ?_ | refine rn_skip ?_ | refine rn_true rfl ?_ | refine rn_false rfl ?_ | refine rn_exit rfl ?_ | refine pl_not rfl rfl ?_))
  refine pl_op rfl rfl (opTo_allocN _ rfl zero_fault ?_)
  intro w4 b5 hb50 hs4 hk4 hg4
  (repeat (first | refine pl_pure hT rfl rfl rfl ?_ | refine pl_nil ?_ | refine rn_seq ?_ | refine rn_plain ?_ | refine rn_block ?_ | refine rn_inBlock ?_ | refine rn_skip ?_ | refine rn_true rfl ?_ | refine rn_false rfl ?_ | refine rn_exit rfl ?_ | refine pl_not rfl rfl ?_))
  refine pl_op rfl rfl (opTo_storeN [.int .i64 fa, .int .i64 fb] rfl rfl rfl rfl size_fault hg4 (by simp) (one_fault _ _) ?_)
  intro w5 hs5 hk5 hg5
  rw [splice_whole (by rfl)] at hg5
  have hk35 : Keep [] w3 w5 := hk4.trB hk5 (by omega)
  have hk25 := hk3.tr hk35
  have hp5 := hk25.blk hp2 (by simp)
  have hf5 := hk25.blk hf2 (by simp)
  have hk05 := hk03.tr hk35
  have hb25 : b2 ≠ b5 := by have := hk3.size; omega
  have hb35 : b3 ≠ b5 := by have := hk3.size; omega
  have hb5w : w.heap.size ≤ b5 := by have := hk03.size; omega
  (repeat (first | refine pl_pure hT rfl rfl rfl ?_ | refine pl_nil ?_ | refine rn_seq ?_ | refine rn_plain ?_ | refine rn_block ?_ | refine rn_inBlock ?_ | refine rn_skip ?_ | refine rn_true rfl ?_ | refine rn_false rfl ?_ | refine rn_exit rfl ?_ | refine pl_not rfl rfl ?_))
  refine pl_val _ rfl rfl (val_load1 hT rfl rfl rfl (hg5.cell rfl)) ?_
  by_cases hz : fa = 0
  · have h0 : (faultOf l).1 = 0 := by rw [← hfl]; exact hz
    obtain ⟨hct, hl6, htl⟩ := scan_ct h0
    have hown5 := hown3.keep hk35 (by simp)
    have hP0 : parseOf l = bnd (readP (toksOf l) l.length) fun (vs, b) => if progFault vs b ≠ 0 then .error (progFault vs b, -1) else .ok (vs, b) := by
      unfold parseOf
      rw [if_neg (by rw [h0]; decide)]
      rfl
    refine pl_no rfl rfl rfl rfl rfl rfl (by first | (simp only [cmpP]; omega) | (simp [cmpP]; done) | (simp [cmpP]; omega)) ?_
    (repeat (first | refine pl_pure hT rfl rfl rfl ?_ | refine pl_nil ?_ | refine rn_seq ?_ | refine rn_plain ?_ | refine rn_block ?_ | refine rn_inBlock ?_ | refine rn_skip ?_ | refine rn_true rfl ?_ | refine rn_false rfl ?_ | refine rn_exit rfl ?_ | refine pl_not rfl rfl ?_))
    refine pl_val _ rfl rfl (val_len l (by decide +kernel) rfl rfl w5) ?_
    refine pl_op rfl rfl (opTo_call (fst := []) (cap := []) rfl rfl rfl rfl (by decide +kernel) ((read_ret l.length hct (hw.keep hk05) hown5).mono ?_))
    rintro r w6 ⟨⟨x, rfl, hP⟩, hk6⟩
    obtain ⟨X, hX⟩ : ∃ X, X = readP (toksOf l) l.length := ⟨_, rfl⟩
    rw [← hX] at hP hP0 ⊢
    obtain ⟨⟨ga, gb⟩, hgl⟩ : ∃ f, f = fltOf X := ⟨_, rfl⟩
    rw [← hgl]
    obtain ⟨⟨vv, a, n, c, rfl, hnc⟩, _⟩ := hP.1, hP
    obtain ⟨F, hPV, hFb⟩ := hP.2
    have hPV' := hPV
    obtain ⟨vv', bv', he, hv, _⟩ := hPV'
    have hvv : vv = vv' := by
      injection he with he
      have := congrArg Array.toList he
      simp at this
      exact this.1
    subst hvv
    obtain ⟨av, cv, rfl⟩ := hv.form
    have hp6 := hk6.blk hp5 (by simp)
    have hf6 := hk6.blk hf5 (by simp)
    have hg6 := hk6.blk hg5 (by simp)
    have hk06 := hk05.tr hk6
    (repeat (first | refine pl_pure hT rfl rfl rfl ?_ | refine pl_nil ?_ | refine rn_seq ?_ | refine rn_plain ?_ | refine rn_block ?_ | refine rn_inBlock ?_ | refine rn_skip ?_ | refine rn_true rfl ?_ | refine rn_false rfl ?_ | refine rn_exit rfl ?_ | refine pl_not rfl rfl ?_))
    refine pl_op rfl rfl (opTo_allocN _ rfl zero_pr ?_)
    intro w7 b6 hb60 hs7 hk7 hq7
    refine pl_op rfl rfl (opTo_storeN [.slice av (prgOf X).1.length cv, .slice a n c] rfl rfl rfl rfl size_pr hq7 (by simp [pz]) (one_pr _ _ _ _ _ _) ?_)
    intro w8 hs8 hk8 hq8
    rw [splice_whole (by rfl)] at hq8
    have hk68 : Keep [] w6 w8 := hk7.trB hk8 (by omega)
    have hg8 := hk68.blk hg6 (by simp)
    have hb5lt := hg6.lt
    refine pl_op rfl rfl (opTo_storeN [.int .i64 ga, .int .i64 gb] rfl rfl rfl rfl size_fault hg8 (by simp) (one_fault _ _) ?_)
    intro w9 hs9 hk9 hg9
    rw [splice_whole (by rfl)] at hg9
    have hq9 := hk9.blk hq8 (by simp; omega)
    have hp9 := hk9.blk (hk68.blk hp6 (by simp)) (by simp; exact hb25)
    have hf9 := hk9.blk (hk68.blk hf6 (by simp)) (by simp; exact hb35)
    have hk09 : Keep [] w w9 := (hk06.tr hk68).trB hk9 hb5w
    have s56 := hk6.size
    have s25 := hk25.size
    have s02 := hk02.size
    have hst : Stays F w6 [] := fun c hc => ⟨(hFb c hc).2, by simp⟩
    have hst8 : Stays F w8 [b5] := fun c hc => ⟨Nat.lt_of_lt_of_le (hFb c hc).2 hk68.size, by simp; have := (hFb c hc).1; have := hg5.lt; omega⟩
    have hP9 : ProgV F w9 (.agg #[.slice av (prgOf X).1.length cv, .slice a n c]) (prgOf X).1 (prgOf X).2 := (hPV.keep hk68 hst).keep hk9 hst8
    have hin9 : In F w9 := fun c hc => by have := (hFb c hc).2; have := hk68.size; have := hk9.size; omega
    (repeat (first | refine pl_pure hT rfl rfl rfl ?_ | refine pl_nil ?_ | refine rn_seq ?_ | refine rn_plain ?_ | refine rn_block ?_ | refine rn_inBlock ?_ | refine rn_skip ?_ | refine rn_true rfl ?_ | refine rn_false rfl ?_ | refine rn_exit rfl ?_ | refine pl_not rfl rfl ?_))
    refine pl_val _ rfl rfl (val_load1 hT rfl rfl rfl (hg9.cell rfl)) ?_
    cases hXc : X with
    | error e =>
      rw [hXc] at hP0 hgl hP9
      have he1 : e = (ga, gb) := hgl.symm
      have hne : ga ≠ 0 := by
        have hpe : parseOf l = .error e := hP0
        have := parseOf_err hpe
        rw [he1] at this
        exact this
      refine pl_yes rfl rfl rfl rfl rfl (by first | (simp only [cmpP]; omega) | (simp [cmpP]; done) | (simp [cmpP]; omega)) ?_
      (repeat (first | refine pl_pure hT rfl rfl rfl ?_ | refine pl_nil ?_ | refine rn_seq ?_ | refine rn_plain ?_ | refine rn_block ?_ | refine rn_inBlock ?_ | refine rn_skip ?_ | refine rn_true rfl ?_ | refine rn_false rfl ?_ | refine rn_exit rfl ?_ | refine pl_not rfl rfl ?_))
      have hkd : Keep [] w9 w9.drew := (Keep.refl _ _).drew
      refine rn_draw (fun w' => True ∧ Blk w' b5 [.int .i64 ga, .int .i64 gb] 28) [] hMix ?_
      have hS : True ∧ Blk w9.drew b5 [.int .i64 ga, .int .i64 gb] 28 := ⟨trivial, hkd.blk hg9 (by simp)⟩
      refine dr_any 0 _ rfl (by decide +kernel) rfl rfl (fun w => val_build _ rfl rfl built_pr0 w) ?_
      refine dr_val 1 _ rfl (by decide +kernel) rfl rfl (fun w9 hS9 => val_load [.int .i64 ga, .int .i64 gb] hT rfl rfl rfl (hS9.2.range (by rfl))) hS ?_
      refine dr_op 2 rfl (by decide +kernel) rfl rfl (opTo_storeN pz rfl rfl rfl rfl size_pr (hkd.blk hp9 (by simp)) (by simp [pz]) (one_pr _ _ _ _ _ _) ?_)
      intro w10 hs10 hk10 hp10
      rw [splice_whole (by rfl)] at hp10
      refine ⟨fun _ => ⟨trivial, hk10.blk hS.2 (by simp; exact hb25.symm)⟩, ?_⟩
      have hf10 := hk10.blk (hkd.blk hf9 (by simp)) (by simp; omega)
      refine dr_op 3 rfl (by decide +kernel) rfl rfl (opTo_storeN [.int .i64 ga, .int .i64 gb] rfl rfl rfl rfl size_fault hf10 (by simp) (one_fault _ _) ?_)
      intro w11 hs11 hk11 hf11
      rw [splice_whole (by rfl)] at hf11
      have hp11 := hk11.blk hp10 (by simp; omega)
      refine ⟨fun _ => ⟨trivial, (hk11.blk (hk10.blk hS.2 (by simp; exact hb25.symm)) (by simp; exact hb35.symm))⟩, ?_⟩
      refine dr_done (by decide +kernel) ?_
      refine rn_retCC Tryz.func6 rfl rfl rfl (blk_loadVar hT hp11 rfl) (blk_loadVar hT hf11 rfl) ⟨⟨.agg pz.toArray, fun _ => False, ?_, ?_, capV_nil, fun c hc => hc.elim⟩, ((hk09.tr hkd).trB hk10 (by omega)).trB hk11 (by omega)⟩
      · rw [hP0, he1]
        rfl
      · rw [hP0]
        exact progV_nil
    | ok q =>
      obtain ⟨vs, body⟩ := q
      rw [hXc] at hP0 hgl hP9 hq9
      injection hgl with hga hgb
      subst hga hgb
      have hP1 : parseOf l = if progFault vs body ≠ 0 then .error (progFault vs body, -1) else .ok (vs, body) := hP0
      have hsz : szSs body ≤ 100000 := by
        have := readP_size (hX.symm.trans hXc)
        omega
      refine pl_no rfl rfl rfl rfl rfl rfl (by first | (simp only [cmpP]; omega) | (simp [cmpP]; done) | (simp [cmpP]; omega)) ?_
      (repeat (first | refine pl_pure hT rfl rfl rfl ?_ | refine pl_nil ?_ | refine rn_seq ?_ | refine rn_plain ?_ | refine rn_block ?_ | refine rn_inBlock ?_ | refine rn_skip ?_ | refine rn_true rfl ?_ | refine rn_false rfl ?_ | refine rn_exit rfl ?_ | refine pl_not rfl rfl ?_))
      refine pl_val _ rfl rfl (val_load [.slice av vs.length cv, .slice a n c] hT rfl rfl rfl (hq9.range (by rfl))) ?_
      have hP9' : ProgV F w9 (.agg #[.slice av vs.length cv, .slice a n c]) vs body := hP9
      refine pl_op rfl rfl (opTo_call (fst := []) (cap := []) rfl rfl rfl rfl (by decide +kernel) ((check_ret hP9' hin9 hsz).mono ?_))
      rintro r w10 ⟨rfl, hk10⟩
      obtain ⟨cd, hcd⟩ : ∃ cd, cd = progFault vs body := ⟨_, rfl⟩
      rw [← hcd] at hP1 ⊢
      have hp10 := hk10.blk hp9 (by simp)
      have hf10 := hk10.blk hf9 (by simp)
      have hq10 := hk10.blk hq9 (by simp)
      have hk010 := hk09.tr hk10
      (repeat (first | refine pl_pure hT rfl rfl rfl ?_ | refine pl_nil ?_ | refine rn_seq ?_ | refine rn_plain ?_ | refine rn_block ?_ | refine rn_inBlock ?_ | refine rn_skip ?_ | refine rn_true rfl ?_ | refine rn_false rfl ?_ | refine rn_exit rfl ?_ | refine pl_not rfl rfl ?_))
      by_cases hc0 : cd = 0
      · rw [if_neg (by simp [hc0])] at hP1
        refine pl_no rfl rfl rfl rfl rfl rfl (by first | (simp only [cmpP]; omega) | (simp [cmpP]; done) | (simp [cmpP]; omega)) ?_
        (repeat (first | refine pl_pure hT rfl rfl rfl ?_ | refine pl_nil ?_ | refine rn_seq ?_ | refine rn_plain ?_ | refine rn_block ?_ | refine rn_inBlock ?_ | refine rn_skip ?_ | refine rn_true rfl ?_ | refine rn_false rfl ?_ | refine rn_exit rfl ?_ | refine pl_not rfl rfl ?_))
        refine pl_val _ rfl rfl (val_load [.slice av vs.length cv, .slice a n c] hT rfl rfl rfl (hq10.range (by rfl))) ?_
        refine pl_val _ rfl rfl (val_build _ rfl rfl built_fault0 w10) ?_
        refine pl_op rfl rfl (opTo_storeN [.slice av vs.length cv, .slice a n c] rfl rfl rfl rfl size_pr hp10 (by simp [pz]) (one_pr _ _ _ _ _ _) ?_)
        intro w11 hs11 hk11 hp11
        rw [splice_whole (by rfl)] at hp11
        have hf11 := hk11.blk hf10 (by simp; omega)
        refine pl_op rfl rfl (opTo_storeN [.int .i64 0, .int .i64 0] rfl rfl rfl rfl size_fault hf11 (by simp) (one_fault _ _) ?_)
        intro w12 hs12 hk12 hf12
        rw [splice_whole (by rfl)] at hf12
        have hp12 := hk12.blk hp11 (by simp; omega)
        (repeat (first | refine pl_pure hT rfl rfl rfl ?_ | refine pl_nil ?_ | refine rn_seq ?_ | refine rn_plain ?_ | refine rn_block ?_ | refine rn_inBlock ?_ | refine rn_skip ?_ | refine rn_true rfl ?_ | refine rn_false rfl ?_ | refine rn_exit rfl ?_ | refine pl_not rfl rfl ?_))
        have hFlt : ∀ c, F c → w5.heap.size ≤ c := fun c hc => (hFb c hc).1
        have hb23 : b2 < w5.heap.size ∧ b3 < w5.heap.size := ⟨hp5.lt, hf5.lt⟩
        have hst10 : Stays F w9 [] := fun c hc => ⟨hin9 c hc, by simp⟩
        have hin10 : In F w10 := hin9.keep hk10
        have hst11 : Stays F w10 [b2] := fun c hc => ⟨hin10 c hc, by simp; have := hFlt c hc; omega⟩
        have hin11 : In F w11 := hin10.keep hk11
        have hst12 : Stays F w11 [b3] := fun c hc => ⟨hin11 c hc, by simp; have := hFlt c hc; omega⟩
        have hin12 : In F w12 := hin11.keep hk12
        have hP12 : ProgV F w12 (.agg #[.slice av vs.length cv, .slice a n c]) vs body := ((hP9'.keep hk10 hst10).keep hk11 hst11).keep hk12 hst12
        refine rn_retCC Tryz.func6 rfl rfl rfl (blk_loadVar hT hp12 rfl) (blk_loadVar hT hf12 rfl) ⟨⟨.agg #[.slice av vs.length cv, .slice a n c], F, ?_, ?_, ⟨_, a, n, c, rfl, hnc⟩, fun c hc => ?_⟩, (hk010.trB hk11 (by omega)).trB hk12 (by omega)⟩
        · rw [hP1]
          rfl
        · rw [hP1]
          exact hP12
        · have := hFlt c hc
          have := hin12 c hc
          have := hk05.size
          omega
      · rw [if_pos hc0] at hP1
        refine pl_yes rfl rfl rfl rfl rfl (by first | (simp only [cmpP]; omega) | (simp [cmpP]; done) | (simp [cmpP]; omega)) ?_
        (repeat (first | refine pl_pure hT rfl rfl rfl ?_ | refine pl_nil ?_ | refine rn_seq ?_ | refine rn_plain ?_ | refine rn_block ?_ | refine rn_inBlock ?_ | refine rn_skip ?_ | refine rn_true rfl ?_ | refine rn_false rfl ?_ | refine rn_exit rfl ?_ | refine pl_not rfl rfl ?_))
        refine pl_val _ rfl rfl (val_build _ rfl rfl built_pr0 w10) ?_
        (repeat (first | refine pl_pure hT rfl rfl rfl ?_ | refine pl_nil ?_ | refine rn_seq ?_ | refine rn_plain ?_ | refine rn_block ?_ | refine rn_inBlock ?_ | refine rn_skip ?_ | refine rn_true rfl ?_ | refine rn_false rfl ?_ | refine rn_exit rfl ?_ | refine pl_not rfl rfl ?_))
        refine pl_val _ rfl rfl (val_build _ rfl rfl (built_fault cd (-1)) w10) ?_
        refine pl_op rfl rfl (opTo_storeN pz rfl rfl rfl rfl size_pr hp10 (by simp [pz]) (one_pr _ _ _ _ _ _) ?_)
        intro w11 hs11 hk11 hp11
        rw [splice_whole (by rfl)] at hp11
        have hf11 := hk11.blk hf10 (by simp; omega)
        refine pl_op rfl rfl (opTo_storeN [.int .i64 cd, .int .i64 (-1)] rfl rfl rfl rfl size_fault hf11 (by simp) (one_fault _ _) ?_)
        intro w12 hs12 hk12 hf12
        rw [splice_whole (by rfl)] at hf12
        have hp12 := hk12.blk hp11 (by simp; omega)
        (repeat (first | refine pl_pure hT rfl rfl rfl ?_ | refine pl_nil ?_ | refine rn_seq ?_ | refine rn_plain ?_ | refine rn_block ?_ | refine rn_inBlock ?_ | refine rn_skip ?_ | refine rn_true rfl ?_ | refine rn_false rfl ?_ | refine rn_exit rfl ?_ | refine pl_not rfl rfl ?_))
        refine rn_retCC Tryz.func6 rfl rfl rfl (blk_loadVar hT hp12 rfl) (blk_loadVar hT hf12 rfl) ⟨⟨.agg pz.toArray, fun _ => False, ?_, ?_, capV_nil, fun c hc => hc.elim⟩, (hk010.trB hk11 (by omega)).trB hk12 (by omega)⟩
        · rw [hP1]
          rfl
        · rw [hP1]
          exact progV_nil
  · have hP0 : parseOf l = .error (fa, fb) := by
      unfold parseOf
      rw [if_pos (by rw [← hfl]; exact hz), hfl]
    refine pl_yes rfl rfl rfl rfl rfl (by first | (simp only [cmpP]; omega) | (simp [cmpP]; done) | (simp [cmpP]; omega)) ?_
    (repeat (first | refine pl_pure hT rfl rfl rfl ?_ | refine pl_nil ?_ | refine rn_seq ?_ | refine rn_plain ?_ | refine rn_block ?_ | refine rn_inBlock ?_ | refine rn_skip ?_ | refine rn_true rfl ?_ | refine rn_false rfl ?_ | refine rn_exit rfl ?_ | refine pl_not rfl rfl ?_))
    have hkd : Keep [] w5 w5.drew := (Keep.refl _ _).drew
    refine rn_draw (fun w' => True ∧ Blk w' b5 [.int .i64 fa, .int .i64 fb] 28) [] hMix ?_
    have hS : True ∧ Blk w5.drew b5 [.int .i64 fa, .int .i64 fb] 28 := ⟨trivial, hkd.blk hg5 (by simp)⟩
    refine dr_any 0 _ rfl (by decide +kernel) rfl rfl (fun w => val_build _ rfl rfl built_pr0 w) ?_
    refine dr_val 1 _ rfl (by decide +kernel) rfl rfl (fun w9 hS9 => val_load [.int .i64 fa, .int .i64 fb] hT rfl rfl rfl (hS9.2.range (by rfl))) hS ?_
    refine dr_op 2 rfl (by decide +kernel) rfl rfl (opTo_storeN pz rfl rfl rfl rfl size_pr (hkd.blk hp5 (by simp)) (by simp [pz]) (one_pr _ _ _ _ _ _) ?_)
    intro w10 hs10 hk10 hp10
    rw [splice_whole (by rfl)] at hp10
    refine ⟨fun _ => ⟨trivial, hk10.blk hS.2 (by simp; exact hb25.symm)⟩, ?_⟩
    have hf10 := hk10.blk (hkd.blk hf5 (by simp)) (by simp; omega)
    refine dr_op 3 rfl (by decide +kernel) rfl rfl (opTo_storeN [.int .i64 fa, .int .i64 fb] rfl rfl rfl rfl size_fault hf10 (by simp) (one_fault _ _) ?_)
    intro w11 hs11 hk11 hf11
    rw [splice_whole (by rfl)] at hf11
    have hp11 := hk11.blk hp10 (by simp; omega)
    refine ⟨fun _ => ⟨trivial, (hk11.blk (hk10.blk hS.2 (by simp; exact hb25.symm)) (by simp; exact hb35.symm))⟩, ?_⟩
    refine dr_done (by decide +kernel) ?_
    refine rn_retCC Tryz.func6 rfl rfl rfl (blk_loadVar hT hp11 rfl) (blk_loadVar hT hf11 rfl) ⟨⟨.agg pz.toArray, fun _ => False, ?_, ?_, capV_nil, fun c hc => hc.elim⟩, ((hk05.tr hkd).trB hk10 (by omega)).trB hk11 (by omega)⟩
    · rw [hP0]
      rfl
    · rw [hP0]
      exact progV_nil

theorem pkC : PkC where
  parse l hl _ hw := parse_ret l hl hw
  word k _ hw := (pWord_ret k hw).mono fun _ _ ⟨h1, h2⟩ => ⟨h1, h2 ▸ Keep.refl _ _⟩
  verb k _ hw := (pVerb_ret k hw).mono fun _ _ ⟨h1, h2⟩ => ⟨h1, h2 ▸ Keep.refl _ _⟩
end E
end Go.Proofs.YthbkcadiejfgaacGreatDoor
