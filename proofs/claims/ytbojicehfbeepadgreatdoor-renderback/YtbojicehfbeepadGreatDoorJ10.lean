/- Several texts in one: PgG, PgH, PgI, Bld, PrtL, WrM, WrA. -/
import Derived.Test.YtbojicehfbeepadGreatDoorJ09
import Derived.Test.YtbojicehfbeepadGreatDoorJ08
import Derived.Test.YtbojicehfbeepadGreatDoorJ03
import Derived.Lib.Builder
import Derived.Lib.AppendStr
import Derived.Lib.UnsafeStr
import Derived.Laws.Externs
import Derived.Test.YtbojicehfbeepadGreatDoorJ04
import Derived.Lib.ItoaLen
import Derived.Test.YtbojicehfbeepadGreatDoorJ06
/- The landed reader: a variable that is said, a program. -/
namespace Go.Proofs.YtbojicehfbeepadGreatDoor
set_option maxRecDepth 20000
set_option maxHeartbeats 4000000
namespace E
open Go.Proofs

section
variable {w0 w w' : World} {lv vv : Value} {ts : List Tok} {fin b i : Nat} {vs : List VarT}
theorem isT_must {s : List UInt8} (h : isT ts i s = true) : mustP ts fin s i = .ok (i + 1) := by
  unfold mustP
  rw [if_pos h]

theorem let_end (hct : Ct ts) (hvl : vs.length ≤ 100000) (h : Rd w0 lv ts fin b vv vs w i) (hlet : isT ts i letT = true) :
    Goes 50 [.pointer (some ⟨b, 0, none⟩)] w0 w (letP ts fin i) fun q _ w' => (∃ vv', Rd w0 lv ts fin b vv' (vs ++ [q.1]) w' q.2) ∧ ∃ fp : List Nat, (∀ k ∈ fp, k = b ∨ vv.ownBlock = some k) ∧ Keep fp w w' := by
  have hbw := h.lt
  refine end_of 35 Tryz.func50 rfl rfl (by simp) ?_
  refine au ?_
  obtain ⟨TOT, hTOT⟩ : ∃ TOT, TOT = letP ts fin i := ⟨_, rfl⟩
  rw [← hTOT]
  have hT1 : TOT = bnd (takeP ts fin (fun t => nameB t.text) (i + 1)) fun q => bnd (takeP ts fin (fun t => t.num) q.2) fun p => .ok ((str q.1.text, sizeP p.1.val), p.2) := by
    rw [hTOT]
    unfold letP
    rw [name_take]
    cases takeP ts fin (fun t => nameB t.text) (i + 1) with
    | error e => rfl
    | ok q =>
      show bnd (numP ts fin q.2) _ = bnd (takeP ts fin (fun t => t.num) q.2) _
      rw [num_take]
      cases takeP ts fin (fun t => t.num) q.2 <;> rfl
  refine pl_opE Tryz.func50 rfl rfl (opE_call (fst := []) (cap := []) rfl rfl rfl rfl (by decide +kernel) (End.mono (text_end hct h letT (by decide)) ?_ ?_))
  rotate_left
  · rintro x w1 ⟨e, hX, r⟩
    rw [isT_must hlet] at hX
    cases hX
  rintro r w1 ⟨j, hX, h1, hk1⟩
  rw [isT_must hlet] at hX
  injection hX with hX
  subst hX
  refine au ?_
  refine pl_opE Tryz.func50 rfl rfl (opE_call (fst := []) (cap := []) rfl rfl rfl rfl (by decide +kernel) (End.mono (takeName_end h1) ?_ ?_))
  rotate_left
  · rintro x w1 ⟨e, hX, r⟩
    exact ⟨e, by rw [hT1, hX]; rfl, r⟩
  rintro r w2 ⟨⟨t, j⟩, hX, rfl, h2, hk2⟩
  rw [hX] at hT1
  have hT2 : TOT = bnd (takeP ts fin (fun t => t.num) j) fun p => .ok ((str t.text, sizeP p.1.val), p.2) := hT1
  refine pl_op rfl rfl (opTo_allocN _ rfl zero_tok ?_)
  intro w3 b2 hb20 hs3 hk3 hz3
  refine pl_op rfl rfl (opTo_storeN (tokL t) rfl rfl rfl rfl size_tok hz3 (by simp [tokC, tokL]) (tokC_one _ _ _ _) ?_)
  intro w4 hs4 hk4 hz4
  rw [splice_whole (by rfl)] at hz4
  have hk24 : Keep [] w2 w4 := hk3.trB hk4 (by omega)
  have h4 := h2.keep0 hk24
  have hk04 : Keep [b] w w4 := (hk1.tr hk2).tr0 hk24
  have hb2w : w.heap.size ≤ b2 := by have := hk1.size; have := hk2.size; omega
  refine au ?_
  refine pl_opE Tryz.func50 rfl rfl (opE_call (fst := []) (cap := []) rfl rfl rfl rfl (by decide +kernel) (End.mono (takeNum_end h4) ?_ ?_))
  rotate_left
  · rintro x w1 ⟨e, hX, r⟩
    exact ⟨e, by rw [hT2, hX]; rfl, r⟩
  rintro r w5 ⟨⟨u, k⟩, hX, rfl, h5, hk5⟩
  rw [hX] at hT2
  have hT3 : TOT = .ok ((str t.text, sizeP u.val), k) := hT2
  have hz5 := hk5.blk hz4 (by simp; omega)
  refine pl_op rfl rfl (opTo_allocN _ rfl zero_tok ?_)
  intro w6 b3 hb30 hs6 hk6 hx6
  refine pl_op rfl rfl (opTo_storeN (tokL u) rfl rfl rfl rfl size_tok hx6 (by simp [tokC, tokL]) (tokC_one _ _ _ _) ?_)
  intro w7 hs7 hk7 hx7
  rw [splice_whole (by rfl)] at hx7
  have hk57 : Keep [] w5 w7 := hk6.trB hk7 (by omega)
  have hz7 := hk57.blk hz5 (by simp)
  refine au ?_
  refine pl_val _ rfl rfl (val_load1 hT rfl rfl rfl (hz7.cell rfl)) ?_
  refine pl_val _ rfl rfl (val_build _ rfl rfl (built_v1 (str t.text)) w7) ?_
  refine pl_op rfl rfl (opTo_allocN _ rfl zero_v ?_)
  intro w8 b4 hb40 hs8 hk8 hy8
  refine pl_op rfl rfl (opTo_storeN (vcell (str t.text, 0)) rfl rfl rfl rfl size_v hy8 (by simp [vcell]) (by simp [vcell]; constructor <;> rfl) ?_)
  intro w9 hs9 hk9 hy9
  rw [splice_whole (by rfl)] at hy9
  have hk79 : Keep [] w7 w9 := hk8.trB hk9 (by omega)
  have hx9 := hk79.blk hx7 (by simp)
  have hk59 : Keep [] w5 w9 := hk57.tr hk79
  have s5 := hk5.size
  have s04 := hk04.size
  have s57 := hk57.size
  refine auj ?_
  refine rn_seq ?_
  refine rn_with (fun σ' w' => Blk w' b4 (vcell (str t.text, sizeP u.val)) 36 ∧ Keep [] w5 w' ∧ Sub [(0, .pointer (some ⟨b, 0, none⟩)), (4, .pointer (some ⟨b4, 0, none⟩))] σ') ?_ ?_
  rotate_left
  · intro fin1
    refine rn_seq ?_
    refine rn_plain ?_
    refine auj ?_
    refine pl_val _ rfl rfl (val_load1 hT rfl rfl rfl (hx9.cell rfl)) ?_
    by_cases h1' : 1 ≤ u.val
    · refine ye ?_
      refine auj ?_
      refine pl_val _ rfl rfl (val_load1 hT rfl rfl rfl (hx9.cell rfl)) ?_
      by_cases h2' : u.val ≤ 48
      · refine ye ?_
        refine auj ?_
        refine rn_plain ?_
        refine auj ?_
        refine pl_val _ rfl rfl (val_load1 hT rfl rfl rfl (hx9.cell rfl)) ?_
        refine auj ?_
        refine pl_op rfl rfl (opTo_storeN [.int .i64 u.val] rfl rfl rfl rfl size_int hy9 (by simp [vcell]) (by simp; rfl) ?_)
        intro w10 hs10 hk10 hy10
        refine auj ?_
        refine fin1 _ _ ⟨?_, hk59.trB hk10 (by omega), rfl, rfl, trivial⟩
        have e : sizeP u.val = u.val := by
          unfold sizeP
          rw [if_pos ⟨h1', h2'⟩]
        rw [e]
        exact hy10
      · refine nay ?_
        refine auj ?_
        refine fin1 _ _ ⟨?_, hk59, rfl, rfl, trivial⟩
        have e : sizeP u.val = 0 := by
          unfold sizeP
          rw [if_neg (by omega)]
        rw [e]
        exact hy9
    · refine nay ?_
      refine auj ?_
      refine fin1 _ _ ⟨?_, hk59, rfl, rfl, trivial⟩
      have e : sizeP u.val = 0 := by
        unfold sizeP
        rw [if_neg (by omega)]
      rw [e]
      exact hy9
  rintro σ' w10 ⟨hy10, hk10, hsub⟩
  refine rn_sub hsub ?_
  have h10 := h5.keep0 hk10
  obtain ⟨y, hy⟩ : ∃ y, y = (str t.text, sizeP u.val) := ⟨_, rfl⟩
  rw [← hy] at hy10 hT3
  obtain ⟨a, c, hb10, hc, ha⟩ := h10.blk
  obtain ⟨av, cv, hvv⟩ := h10.var.form
  have hkd : Keep [] w10 w10.drew := (Keep.refl _ _).drew
  refine rn_draw (fun w' => Blk w' b4 (vcell y) 36 ∧ Blk w' b (rdC (.slice a (ts.length - k) c) fin vv) 79) [10] hMix ?_
  have hS : Blk w10.drew b4 (vcell y) 36 ∧ Blk w10.drew b (rdC (.slice a (ts.length - k) c) fin vv) 79 := ⟨hkd.blk hy10 (by simp), hkd.blk hb10 (by simp)⟩
  refine dp 0 ?_
  refine dp 1 ?_
  refine dp 2 ?_
  refine dp 3 ?_
  refine dp 4 ?_
  refine dr_val 5 _ rfl (by decide +kernel) rfl rfl (fun w9 hS9 => val_load (vcell y) hT rfl rfl rfl (hS9.1.range (by rfl))) hS ?_
  refine dr_op 6 rfl (by decide +kernel) rfl rfl (opTo_sliceN _ _ rfl rfl (slice_v (.string y.1) (.int .i64 y.2)) ?_)
  intro w11 g11 hg11 hs11 hk11 hb11
  have hkd11 : Keep [] w10 w11 := hkd.tr hk11
  have hS11 : Blk w11 b4 (vcell y) 36 ∧ Blk w11 b (rdC (.slice a (ts.length - k) c) fin vv) 79 := ⟨hk11.blk hS.1 (by simp), hk11.blk hS.2 (by simp)⟩
  refine ⟨fun _ => hS11, ?_⟩
  have h11 := h10.keep0 hkd11
  have sw0 := h11.kp.size
  refine dr_op 7 rfl (by decide +kernel) rfl rfl (opTo_app w0.heap.size 36 2 24 (vs.flatMap vcell) (vcell y) rfl rfl rfl (by decide +kernel) h11.var (hb11.range (by rfl)) rfl (by intro x hx; simp only [vcell, List.mem_cons, List.not_mem_nil, or_false] at hx; rcases hx with rfl | rfl <;> rfl) (by decide) (by simp only [maxLen]; omega) (by omega) (by omega) ?_)
  intro g12 cap12 w12 hown12 hor12
  have hvw : ∀ q, vv.ownBlock = some q → q < w.heap.size := fun q hq => (h.var.lt q hq).2
  have hb4n : ∀ q, vv.ownBlock = some q → b4 ≠ q := fun q hq => by have := hvw q hq; omega
  have hbn : ∀ q, vv.ownBlock = some q → b ≠ q := fun q hq => own_ne h11.var hS11.2 (by decide) q hq
  have hS12 : Blk w12 b4 (vcell y) 36 ∧ Blk w12 b (rdC (.slice a (ts.length - k) c) fin vv) 79 := ⟨app_blk hS11.1 hb4n hor12, app_blk hS11.2 hbn hor12⟩
  have hk12 : ∃ fp : List Nat, (∀ q ∈ fp, vv.ownBlock = some q) ∧ Keep fp w11 w12 := by
    rcases hor12 with ⟨h1, _, h2⟩ | ⟨_, h2, _⟩
    · exact ⟨[g12], by simp [h1], h2⟩
    · exact ⟨[], by simp, h2⟩
  obtain ⟨fp, hfp, hk12⟩ := hk12
  refine ⟨fun _ => hS12, ?_⟩
  refine tk 8 ?_
  refine tk 9 ?_
  refine dr_op 10 rfl (by decide +kernel) rfl rfl (opTo_storeN [.slice (some ⟨g12, 0, none⟩) (vs.length + 1) cap12] rfl rfl rfl rfl size_vs hS12.2 (by simp [rdC]) (by simp; rfl) ?_)
  intro w13 hs13 hk13 hb13
  have hsp : splice (rdC (.slice a (ts.length - k) c) fin vv) 2 [.slice (some ⟨g12, 0, none⟩) (vs.length + 1) cap12] = rdC (.slice a (ts.length - k) c) fin (.slice (some ⟨g12, 0, none⟩) (vs.length + 1) cap12) := rfl
  rw [hsp] at hb13
  refine ⟨fun h => absurd (by simp) h, ?_⟩
  refine dr_done (by decide +kernel) ?_
  refine rn_end Tryz.func50 (.inr (.inl ⟨rfl, rfl⟩)) ⟨(y, k), hT3, ⟨.slice (some ⟨g12, 0, none⟩) (vs.length + 1) cap12, ?_⟩, b :: fp, ?_, ?_⟩
  · have hnew := h.new
    refine ⟨h11.le, ?_, hnew, ?_, ?_, ⟨a, c, hb13, hc, ha⟩⟩
    · refine (h11.kp.trans hk12 (fun q hq => .inr ?_)).trB hk13 hnew
      exact (h11.var.lt q (hfp q hq)).1
    · obtain ⟨Bt, ho⟩ := h11.tok
      refine ⟨Bt, ?_⟩
      have ho12 : Own w12 Bt 72 4 lv ts.length (ts.flatMap tokL) := by
        refine ho.keep hk12 (fun q hq hm => ?_)
        have hvq := hfp q hm
        rcases h11.var.2 with ⟨hv, _⟩ | ⟨g', c', cur', hv, _, hg', _⟩
        · rw [hv] at hvq; simp [Value.ownBlock] at hvq
        · rw [hv] at hvq
          simp [Value.ownBlock] at hvq
          subst hvq
          exact own_ne ho hg' (by decide) _ hq rfl
      exact ho12.keep hk13 (fun q hq => by simp; exact fun e => own_ne ho12 hS12.2 (by decide) q hq e.symm)
    · have e1 : (vs ++ [y]).length = vs.length + 1 := by simp
      have e2 : (vs ++ [y]).flatMap vcell = vs.flatMap vcell ++ vcell y := by simp
      rw [e1, e2]
      exact hown12.keep hk13 (fun q hq => by simp; exact fun e => own_ne hown12 hS12.2 (by decide) q hq e.symm)
  · intro q hq
    rcases List.mem_cons.1 hq with rfl | hq
    · exact .inl rfl
    · exact .inr (hfp q hq)
  · have hk0 : Keep (b :: fp) w w10 := ((hk04.tr hk5).tr0 hk10).mono (fun q hq => .inl (by simp at hq; simp [hq]))
    exact ((hk0.tr0 hkd11).trans hk12 (fun q hq => .inl (List.mem_cons_of_mem _ hq))).trans hk13 (fun q hq => .inl (by simp at hq; simp [hq]))
end
end E
end Go.Proofs.YtbojicehfbeepadGreatDoor

/- The landed reader: a program; a reader that gave up is caught; Parse. -/
namespace Go.Proofs.YtbojicehfbeepadGreatDoor
set_option maxRecDepth 20000
set_option maxHeartbeats 4000000
namespace E
open Go.Proofs

theorem built_pr (a a' : Option Addr) (n c n' c' : Nat) : Tryz.prog.built 25 [(0, .slice a n c), (1, .slice a' n' c')] = some [Value.slice a n c, .slice a' n' c'].toArray := by kernel_rfl

/-- A program that was made since w0. -/
def PgR (w0 w' : World) (r : Value) (vs : List VarT) (body : List ST) : Prop := CapV r ∧ ∃ F : Nat → Prop, ProgV F w' r vs body ∧ ∀ c, F c → w0.heap.size ≤ c ∧ c < w'.heap.size
theorem PgR.keep {w0 w w' : World} {r : Value} {vs : List VarT} {body : List ST} {fp : List Nat} (h : PgR w0 w r vs body) (hk : Keep fp w w') (hfp : ∀ c ∈ fp, c < w0.heap.size) : PgR w0 w' r vs body := by
  obtain ⟨h1, F, h2, h3⟩ := h
  exact ⟨h1, F, h2.keep hk (fun c hc => ⟨(h3 c hc).2, fun hm => by have := hfp c hm; have := (h3 c hc).1; omega⟩), fun c hc => ⟨(h3 c hc).1, Nat.lt_of_lt_of_le (h3 c hc).2 hk.size⟩⟩

section
variable {w0 w w' : World} {lv vv : Value} {ts : List Tok} {fin b i : Nat} {vs : List VarT}
theorem letP_lt : ∀ (i : Nat) (r : VarT × Nat), letP ts fin i = .ok r → i < r.2 ∧ r.2 ≤ ts.length := fun _ _ h => letP_ok h

theorem program_end (hct : Ct ts) (hw0 : Lw w0) (h : Rd w0 lv ts fin b (.slice none 0 0) [] w 0) :
    Goes 28 [.pointer (some ⟨b, 0, none⟩)] w0 w (readP ts fin) fun q r w' => PgR w0 w' r q.1 q.2 ∧ Keep [] w0 w' := by
  have hlen := hct.len
  have hbw := h.lt
  refine end_of 17 Tryz.func28 rfl rfl (by simp) ?_
  refine au ?_
  refine pl_op rfl rfl (opTo_boxN [.pointer (some ⟨b, 0, none⟩)] rfl rfl rfl ?_)
  intro w1 bx hbx hs1 hk1 hx1
  refine pl_op rfl rfl (opTo_allocN _ rfl zero_pr ?_)
  intro w2 b2 hb20 hs2 hk2 hz2
  have hk02 := hk1.tr hk2
  have h2 := h.keep0 hk02
  have hx2 := hk2.blk hx1 (by simp)
  obtain ⟨TOT, hTOT⟩ : ∃ TOT, TOT = readP ts fin := ⟨_, rfl⟩
  rw [← hTOT]
  have hT0 : TOT = bnd (untilP (fun j => !isT ts j letT) (letP ts fin) (ts.length + 1 - 0) 0) fun (r, k) => bnd (bodyP ts fin ([] ++ r) k) fun (b, _) => .ok ([] ++ r, b) := by
    rw [hTOT]
    rfl
  have hw0w : w0.heap.size ≤ w.heap.size := h.kp.size
  refine au ?_
  refine rn_ind (fun m σ w' => ∃ (j : Nat) (vs : List VarT) (vv : Value), m = ts.length + 1 - j ∧ σ = [(1, .pointer (some ⟨bx, 0, none⟩)), (2, .pointer (some ⟨b2, 0, none⟩))] ∧
    TOT = bnd (untilP (fun j => !isT ts j letT) (letP ts fin) (ts.length + 1 - j) j) (fun (r, k) => bnd (bodyP ts fin (vs ++ r) k) fun (b, _) => .ok (vs ++ r, b)) ∧ vs.length ≤ j ∧ Rd w0 lv ts fin b vv vs w' j ∧
    Blk w' bx [.pointer (some ⟨b, 0, none⟩)] 77 ∧ Blk w' b2 pz 25) _ _ ?_ ⟨0, [], .slice none 0 0, rfl, rfl, hT0, Nat.le_refl _, h2, hx2, hz2⟩ ?_
  · exact ⟨rfl, rfl, trivial⟩
  rintro m σ w3 ih ⟨j, vs, vv, rfl, rfl, hT3, hvj, h3, hx3, hz3⟩
  have hjl := h3.le
  refine au ?_
  refine pl_val _ rfl rfl (val_load1 hT rfl rfl rfl (hx3.cell rfl)) ?_
  refine pl_op rfl rfl (opTo_call (fst := []) (cap := []) rfl rfl rfl rfl (by decide +kernel) ((stands_ret hct h3 letT (by decide)).mono ?_))
  rintro r w4 ⟨rfl, rfl⟩
  have hu : untilP (fun j => !isT ts j letT) (letP ts fin) (ts.length + 1 - j) j = if (!isT ts j letT) = true then .ok ([], j) else bnd (letP ts fin j) fun (t, k) => bnd (untilP (fun j => !isT ts j letT) (letP ts fin) (ts.length - j) k) fun (r, k) => .ok (t :: r, k) := by
    have e : ts.length + 1 - j = (ts.length - j) + 1 := by omega
    rw [e]
    rfl
  obtain ⟨q, hq⟩ : ∃ q, q = isT ts j letT := ⟨_, rfl⟩
  rw [← hq] at hu ⊢
  cases q with
  | true =>
    rw [if_neg (by decide)] at hu
    have hT4 : TOT = bnd (letP ts fin j) fun q => bnd (untilP (fun j => !isT ts j letT) (letP ts fin) (ts.length + 1 - q.2) q.2) (fun (r, k) => bnd (bodyP ts fin ((vs ++ [q.1]) ++ r) k) fun (b, _) => .ok ((vs ++ [q.1]) ++ r, b)) := by
      rw [hT3, hu]
      cases hc : letP ts fin j with
      | error e => rfl
      | ok q =>
        obtain ⟨t, j'⟩ := q
        have h1 := letP_ok hc
        dsimp only at h1
        show bnd (bnd (untilP _ (letP ts fin) (ts.length - j) j') _) _ = bnd (untilP _ (letP ts fin) (ts.length + 1 - j') j') _
        rw [untilP_fuel letP_lt (ts.length - j) (ts.length + 1 - j') j' h1.2 (by omega) (by omega)]
        cases untilP (fun j => !isT ts j letT) (letP ts fin) (ts.length + 1 - j') j' with
        | error e => rfl
        | ok q =>
          obtain ⟨r', k'⟩ := q
          show bnd (bodyP ts fin (vs ++ t :: r') k') _ = bnd (bodyP ts fin (vs ++ [t] ++ r') k') _
          rw [show vs ++ t :: r' = vs ++ [t] ++ r' by simp]
    refine au ?_
    refine pl_val _ rfl rfl (val_load1 hT rfl rfl rfl (hx3.cell rfl)) ?_
    refine pl_opE Tryz.func28 rfl rfl (opE_call (fst := []) (cap := []) rfl rfl rfl rfl (by decide +kernel) (End.mono (let_end hct (by omega) h3 hq.symm) ?_ ?_))
    rotate_left
    · rintro x w5 ⟨e, hX, r⟩
      exact ⟨e, by rw [hT4, hX]; rfl, r⟩
    rintro r w5 ⟨⟨y, j'⟩, hX, ⟨vv', h5⟩, fp, hfp, hk5⟩
    have hlt := letP_ok hX
    dsimp only at hlt
    rw [hX] at hT4
    obtain ⟨a0, c0, hb0, _⟩ := h3.blk
    have hx5 := hk5.blk hx3 (fun hm => (hfp bx hm).elim (fun e => hx3.ne hb0 (by decide) e) fun e => own_ne h3.var hx3 (by decide) bx e rfl)
    have hz5 := hk5.blk hz3 (fun hm => (hfp b2 hm).elim (fun e => hz3.ne hb0 (by decide) e) fun e => own_ne h3.var hz3 (by decide) b2 e rfl)
    refine au ?_
    refine rn_sub ?_ (ih _ _ _ ?_ ⟨j', vs ++ [y], vv', rfl, rfl, hT4, by simp; omega, h5, hx5, hz5⟩)
    · exact ⟨rfl, rfl, trivial⟩
    · omega
  | false =>
    rw [if_pos (by decide)] at hu
    have hT4 : TOT = bnd (bodyP ts fin vs j) fun (b, _) => .ok (vs, b) := by
      rw [hT3, hu]
      show bnd (bodyP ts fin (vs ++ []) j) _ = _
      rw [List.append_nil]
    unfold bodyP at hT4
    refine au ?_
    refine pl_val _ rfl rfl (val_load1 hT rfl rfl rfl (hx3.cell rfl)) ?_
    refine au ?_
    refine pl_opE Tryz.func28 rfl rfl (opE_call (fst := []) (cap := []) rfl rfl rfl rfl (by decide +kernel) (End.mono (stmts_end (deep := 0) (stop := fun j => decide (ts.length ≤ j)) (one := stmtP ts fin vs 13) (g := 52) (bx := bx) hct (by decide +kernel) (stmtP_ok vs 13) (fun i w h => stmt_end hct hw0 (by omega) 13 0 i rfl h) (fun i w h hx => atEnd_ret h hx) h3 hx3) ?_ ?_))
    rotate_left
    · rintro x w5 ⟨e, hX, r⟩
      exact ⟨e, by rw [hT4, hX]; rfl, r⟩
    rintro r w5 ⟨⟨body, j'⟩, hX, ⟨⟨a, n, c, rfl, hnc⟩, F, hF1, hF2⟩, h5, hk5⟩
    rw [hX] at hT4
    have hT5 : TOT = .ok (vs, body) := hT4
    obtain ⟨a0, c0, hb0, _⟩ := h3.blk
    have hx5 := hk5.blk hx3 (by simp; exact fun e => hx3.ne hb0 (by decide) e)
    have hz5 := hk5.blk hz3 (by simp; exact fun e => hz3.ne hb0 (by decide) e)
    obtain ⟨a5, c5, hb5, _⟩ := h5.blk
    obtain ⟨av, cv, rfl⟩ := h5.var.form
    refine au ?_
    refine pl_val _ rfl rfl (val_load1 hT rfl rfl rfl (hx5.cell rfl)) ?_
    refine au ?_
    refine pl_val _ rfl rfl (val_load1 hT rfl rfl rfl (hb5.cell rfl)) ?_
    refine au ?_
    refine pl_val _ rfl rfl (val_build _ rfl rfl (built_pr av a vs.length cv n c) w5) ?_
    refine pl_op rfl rfl (opTo_storeN [.slice av vs.length cv, .slice a n c] rfl rfl rfl rfl size_pr hz5 (by simp [pz]) (one_pr _ _ _ _ _ _) ?_)
    intro w6 hs6 hk6 hz6
    rw [splice_whole (by rfl)] at hz6
    refine au ?_
    have hb2w : w0.heap.size ≤ b2 := by have := hk1.size; omega
    have h6 := h5.put hz5 hb2w hk6 (by decide)
    have s3 : b2 < w4.heap.size := hz3.lt
    have hF6 : StmtsV F w6 (.slice a n c) body := hF1.keep hk6 (fun k hk => ⟨(hF2 k hk).2, by simp; have := (hF2 k hk).1; omega⟩)
    have hv6 := vars_own h6.var
    refine rn_ret Tryz.func28 (.inr (.inr (.inl ⟨_, _, _, rfl, rfl, blk_loadVar hT hz6 rfl⟩))) ⟨(vs, body), hT5, ⟨⟨_, a, n, c, rfl, hnc⟩, fun k => (Value.slice av vs.length cv).ownBlock = some k ∨ F k, ⟨_, _, rfl, hv6.mono fun k hk => .inl hk, hF6.mono fun k hk => .inr hk⟩, ?_⟩, h6.kp⟩
    rintro k (hk | hk)
    · exact h6.var.lt k hk
    · have := hF2 k hk
      have := h3.kp.size
      have := hk6.size
      omega
end

/-! ### Caught -/
section
variable {P : Program} {n : Nat} {σ : Env} {o : Oper}
theorem val_assert {t xt : TypeId} {x : Operand} {u : Value} (hs : isStruct P t = true) (ho : o.op = .typeAssert x xt t false) (hx : ev σ x = some (.iface t u)) (w : World) : Val P n σ o w u := by
  intro a ha
  unfold isStruct at hs
  split at hs
  · rename_i fs hu
    simp [execOp, ho, ha.eval hx, Instr.typeAssert, run_underlying hu]
  · cases hs
end
theorem CallsD.mono' {P : Program} {f : FuncId} {args : Array Value} {u : FrameMode} {w : World} {R R' : Ending → FrameMode → World → Prop} (h : CallsD P f args u w R) (hr : ∀ e u' w', R e u' w' → R' e u' w') : CallsD P f args u w R' := fun c cs hc => by
  obtain ⟨e, u', w', fr, h1, h2⟩ := h c cs hc
  exact ⟨e, u', w', fr, hr e u' w' h1, h2⟩

theorem caught {w : World} {b5 : Nat} (hb : Blk w b5 [.int .i64 0, .int .i64 0] 29) (e : Flt) :
    CallsD Tryz.prog 27 [Value.pointer (some ⟨b5, 0, none⟩)].toArray (.panicking (pan (gvV e))) w fun en u' w' => en = .returned (.tuple #[]) ∧ u' = .panicking [{ v := gvV e, recovered := true }] ∧ Blk w' b5 [.int .i64 e.1, .int .i64 e.2] 29 ∧ Keep [b5] w w' := by
  refine callsD_of 8 Tryz.func27 rfl rfl (by simp) ?_
  refine rnD_seq ?_
  refine rnD_recover (gvV e) rfl rfl rfl (fun a ha => rfl) ?_
  refine au ?_
  refine pl_val _ rfl rfl (val_errSome _ _ (by decide +kernel) rfl rfl w) ?_
  refine au ?_
  refine pl_val _ rfl rfl (val_assert (by decide +kernel) rfl rfl w) ?_
  refine pl_val _ rfl rfl (val_fieldAgg 0 [.int .i64 e.1, .int .i64 e.2] [.int .i64 e.1, .int .i64 e.2] rfl rfl (m := 2) (by decide +kernel) rfl w) ?_
  refine pl_op rfl rfl (opTo_storeN [.int .i64 e.1, .int .i64 e.2] rfl rfl rfl rfl size_fault hb (by simp) (one_fault _ _) ?_)
  intro w1 hs1 hk1 hb1
  rw [splice_whole (by rfl)] at hb1
  refine au ?_
  exact rn_endX Tryz.func27 rfl (.inr (.inl ⟨rfl, rfl⟩)) ⟨rfl, rfl, hb1, hk1⟩
theorem uncaught (w : World) (b5 : Nat) :
    CallsD Tryz.prog 27 [Value.pointer (some ⟨b5, 0, none⟩)].toArray .returning w fun en u' w' => en = .returned (.tuple #[]) ∧ u' = .returning ∧ w' = w := by
  refine callsD_of 8 Tryz.func27 rfl rfl (by simp) ?_
  refine rnD_seq ?_
  refine rnD_norec rfl rfl rfl (fun a ha => rfl) ?_
  refine au ?_
  refine pl_val _ rfl rfl (val_errNil (by decide +kernel) rfl rfl w) ?_
  refine au ?_
  exact rn_endX Tryz.func27 rfl (.inr (.inl ⟨rfl, rfl⟩)) ⟨rfl, rfl, rfl⟩
end E
end Go.Proofs.YtbojicehfbeepadGreatDoor

/- The landed package: read, Parse; what the laws take of it. -/
namespace Go.Proofs.YtbojicehfbeepadGreatDoor
set_option maxRecDepth 20000
set_option maxHeartbeats 4000000
namespace E
open Go.Proofs

theorem built_rd (a : Option Addr) (n c : Nat) (fin : Int) : Tryz.prog.built 79 [(0, .slice a n c), (1, .int .i64 fin)] = some [Value.slice a n c, .int .i64 fin, .slice none 0 0].toArray := by kernel_rfl

theorem read_ret {w : World} {B : Nat} {lv : Value} {ts : List Tok} (fin : Nat) (hct : Ct ts) (hw : Lw w) (hl : Own w B 72 4 lv ts.length (ts.flatMap tokL)) :
    Ret Tryz.prog 14 [lv, .int .i64 (fin : Nat)] w fun r w' => (∃ x, r = .tuple #[x, .agg #[.int .i64 (fltOf (readP ts fin)).1, .int .i64 (fltOf (readP ts fin)).2]] ∧ PgR w w' x (prgOf (readP ts fin)).1 (prgOf (readP ts fin)).2) ∧ Keep [] w w' := by
  obtain ⟨al, cl, rfl⟩ := hl.form
  refine ret_of 15 Tryz.func14 rfl rfl (by simp) ?_
  refine au ?_
  refine pl_op rfl rfl (opTo_allocN _ rfl zero_pr ?_)
  intro w1 b4 hb40 hs1 hk1 hp1
  refine pl_op rfl rfl (opTo_allocN _ rfl zero_fault ?_)
  intro w2 b5 hb50 hs2 hk2 hf2
  have hp2 := hk2.blk hp1 (by simp)
  have hk02 := hk1.tr hk2
  refine au ?_
  refine pl_defer (d := ⟨.fn (.func 27) #[.pointer (some ⟨b5, 0, none⟩)], #[]⟩) rfl rfl (fun a ha => ?_) ?_
  · have := ha.has 7 _ rfl
    simp [execOp, resolve, Act.eval, this, Deferred.ofValue]
  refine au ?_
  refine pl_val _ rfl rfl (val_build _ rfl rfl (built_rd al ts.length cl (fin : Nat)) w2) ?_
  refine pl_op rfl rfl (opTo_boxN (rdC (.slice al ts.length cl) fin (.slice none 0 0)) rfl rfl rfl ?_)
  intro w3 b hb0 hs3 hk3 hz3
  refine au ?_
  have hl3 := hl.keep (hk02.tr hk3) (by simp)
  have h3 : Rd w2 (.slice al ts.length cl) ts fin b (.slice none 0 0) [] w3 0 := by
    refine ⟨Nat.zero_le _, hk3, by omega, ⟨B, hl3⟩, Own.nil _ _ _ _, ⟨al, cl, by rw [Nat.sub_zero]; exact hz3, by rw [Nat.sub_zero]; exact own_cap hl, fun h0 => ?_⟩⟩
    rcases hl.2 with ⟨_, h2⟩ | ⟨g, cap, cur, h1, _⟩
    · omega
    · injection h1 with h1 _ h2
      subst h1 h2
      exact ⟨g, _, rfl, rfl⟩
  refine pl_opD Tryz.func14 rfl rfl rfl (opE_call (fst := []) (cap := []) rfl rfl rfl rfl (by decide +kernel) (End.mono (program_end hct (hw.keep hk02) h3) ?_ ?_))
  · rintro r w4 ⟨⟨vs, body⟩, hX, hP, hk4⟩
    obtain ⟨⟨vv, a, n, c, rfl, hnc⟩, _⟩ := hP.1, hP
    obtain ⟨F, ⟨vv', bv', he, hv, _⟩, _⟩ := hP.2
    have hvv : vv = vv' := by
      injection he with he
      have := congrArg Array.toList he
      simp at this
      exact this.1
    subst hvv
    obtain ⟨av, cv, rfl⟩ := hv.form
    have hp4 := hk4.blk hp2 (by simp)
    have hf4 := hk4.blk hf2 (by simp)
    refine pl_val _ rfl rfl (val_build _ rfl rfl built_fault0 w4) ?_
    refine pl_op rfl rfl (opTo_storeN [.slice av vs.length cv, .slice a n c] rfl rfl rfl rfl size_pr hp4 (by simp [pz]) (one_pr _ _ _ _ _ _) ?_)
    intro w5 hs5 hk5 hp5
    rw [splice_whole (by rfl)] at hp5
    have hf5 := hk5.blk hf4 (by simp; omega)
    refine pl_op rfl rfl (opTo_storeN [.int .i64 0, .int .i64 0] rfl rfl rfl rfl size_fault hf5 (by simp) (one_fault _ _) ?_)
    intro w6 hs6 hk6 hf6
    rw [splice_whole (by rfl)] at hf6
    have hp6 := hk6.blk hp5 (by simp; omega)
    refine au ?_
    refine rn_retD Tryz.func14 rfl (fun ac ha => ⟨fun h => (by cases h), .func 27, _, 27, [Value.pointer (some ⟨b5, 0, none⟩)].toArray, rfl, rfl, ?_⟩)
    refine CallsD.mono' (uncaught w6 b5) ?_
    rintro e u' w7 ⟨rfl, rfl, rfl⟩
    refine ⟨.tuple #[.agg #[.slice av vs.length cv, .slice a n c], .agg #[.int .i64 0, .int .i64 0]], ?_, .inl ⟨_, rfl, ⟨.agg #[.slice av vs.length cv, .slice a n c], ?_, ?_⟩, ?_⟩⟩
    · have i4 := ha.has 4 _ rfl
      have i5 := ha.has 5 _ rfl
      have l4 := blk_loadVar (t := 25) hT hp6 rfl
      have l5 := blk_loadVar (t := 29) hT hf6 rfl
      show (results Tryz.f14 ac.tmps).run _ _ = _
      simp only [results, show Tryz.f14.results = #[.cell 4 25, .cell 5 29] from rfl]
      simp [i4, i5, asAddr, l4, l5]
    · rw [hX]
      rfl
    · rw [hX]
      have hP6 : PgR w2 w7 (.agg #[.slice av vs.length cv, .slice a n c]) vs body := (hP.keep hk5 (by simp; omega)).keep hk6 (by simp; omega)
      obtain ⟨h1, F, h2, h3⟩ := hP6
      exact ⟨h1, F, h2, fun c hc => by have := h3 c hc; have := hk02.size; omega⟩
    · exact ((hk02.tr hk4).trB hk5 (by omega)).trB hk6 (by omega)
  · rintro v w4 ⟨e, hX, rfl, hk4⟩
    intro ac ha
    have hp4 := hk4.blk hp2 (by simp)
    have hf4 := hk4.blk hf2 (by simp)
    refine ⟨fun h => (by cases h), .func 27, _, 27, [Value.pointer (some ⟨b5, 0, none⟩)].toArray, rfl, rfl, ?_⟩
    refine CallsD.mono' (caught hf4 e) ?_
    rintro en u' w5 ⟨rfl, rfl, hf5, hk5⟩
    have hp5 := hk5.blk hp4 (by simp; omega)
    refine ⟨.tuple #[.agg pz.toArray, .agg #[.int .i64 e.1, .int .i64 e.2]], ?_, .inl ⟨_, rfl, ⟨.agg pz.toArray, ?_, ?_⟩, ?_⟩⟩
    · have i4 := ha.has 4 _ rfl
      have i5 := ha.has 5 _ rfl
      have l4 := blk_loadVar (t := 25) hT hp5 rfl
      have l5 := blk_loadVar (t := 29) hT hf5 rfl
      show (results Tryz.f14 ac.tmps).run _ _ = _
      simp only [results, show Tryz.f14.results = #[.cell 4 25, .cell 5 29] from rfl]
      simp [i4, i5, asAddr, l4, l5]
    · rw [hX]
      rfl
    · rw [hX]
      exact ⟨capV_nil, fun _ => False, progV_nil, fun c hc => hc.elim⟩
    · exact (hk02.tr hk4).trB hk5 (by omega)

theorem scan_ct {l : List UInt8} (h : (faultOf l).1 = 0) : Ct (toksOf l) ∧ l.length ≤ 6000 ∧ (toksOf l).length ≤ 6000 := by
  obtain ⟨h1, h2, h3, _⟩ := scan_good h
  refine ⟨⟨by omega, ?_⟩, h1, by omega⟩
  rcases fault_cases l h1 with ⟨e, h4, _⟩ | ⟨ts, h4, _, h5⟩
  · rw [h4] at h; cases h
  · rw [h5]
    exact (toks_fine _ _ _ _ h4).1
theorem readP_size {ts : List Tok} {fin : Nat} {vs : List VarT} {body : List ST} (h : readP ts fin = .ok (vs, body)) : szSs body ≤ 3 * ts.length := by
  unfold readP at h
  obtain ⟨⟨vs', i⟩, ha, h⟩ := bnd_ok h
  obtain ⟨⟨b', j⟩, hb, h⟩ := bnd_ok h
  injection h with h
  injection h with h1 h2
  subst h1 h2
  have hi := (untilP_ok (fun i r hr => letP_ok hr) _ _ _ (Nat.zero_le _) ha).2.1
  have hj := (untilP_ok (fun i r hr => stmtP_ok vs' 13 i r hr) _ _ _ hi hb).2.1
  have hs := untilP_size (stmtP_size vs' 13) _ _ _ hb
  dsimp only at hi hj hs
  omega

theorem parse_ret (l : List UInt8) (hl : l.length ≤ 100000) {w : World} (hw : Lw w) : Ret Tryz.prog 7 [.string (str l)] w fun r w' => ParR w w' r (parseOf l) ∧ Keep [] w w' := by
  refine ret_of 39 Tryz.func7 rfl rfl (by simp) ?_
  refine au ?_
  refine pl_op rfl rfl (opTo_allocN _ rfl zero_pr ?_)
  intro w1 b2 hb20 hs1 hk1 hp1
  refine pl_op rfl rfl (opTo_allocN _ rfl zero_fault ?_)
  intro w2 b3 hb30 hs2 hk2 hf2
  have hp2 := hk2.blk hp1 (by simp)
  have hk02 := hk1.tr hk2
  refine au ?_
  refine pl_op rfl rfl (opTo_call (fst := []) (cap := []) rfl rfl rfl rfl (by decide +kernel) ((scan_ret l (by omega) (hw.keep hk02)).mono ?_))
  rintro r w3 ⟨lv, rfl, hown3, hk3⟩
  have hk03 := hk02.tr hk3
  obtain ⟨al, cl, rfl⟩ := hown3.form
  obtain ⟨⟨fa, fb⟩, hfl⟩ : ∃ f, f = faultOf l := ⟨_, rfl⟩
  rw [← hfl]
  refine au ?_
  refine pl_op rfl rfl (opTo_allocN _ rfl zero_fault ?_)
  intro w4 b5 hb50 hs4 hk4 hg4
  refine au ?_
  refine pl_op rfl rfl (opTo_storeN [.int .i64 fa, .int .i64 fb] rfl rfl rfl rfl size_fault hg4 (by simp) (one_fault _ _) ?_)
  intro w5 hs5 hk5 hg5
  rw [splice_whole (by rfl)] at hg5
  have hk35 : Keep [] w3 w5 := hk4.trB hk5 (by omega)
  have hk25 := hk3.tr hk35
  have hp5 := hk25.blk hp2 (by simp)
  have hf5 := hk25.blk hf2 (by simp)
  have hk05 := hk03.tr hk35
  have hb25 : b2 ≠ b5 := by have := hk3.size; omega
  have hb35 : b3 ≠ b5 := by have := hk3.size; omega
  have hb5w : w.heap.size ≤ b5 := by have := hk03.size; omega
  refine au ?_
  refine pl_val _ rfl rfl (val_load1 hT rfl rfl rfl (hg5.cell rfl)) ?_
  by_cases hz : fa = 0
  · have h0 : (faultOf l).1 = 0 := by rw [← hfl]; exact hz
    obtain ⟨hct, hl6, htl⟩ := scan_ct h0
    have hown5 := hown3.keep hk35 (by simp)
    have hP0 : parseOf l = bnd (readP (toksOf l) l.length) fun (vs, b) => if progFault vs b ≠ 0 then .error (progFault vs b, -1) else .ok (vs, b) := by
      unfold parseOf
      rw [if_neg (by rw [h0]; decide)]
      rfl
    refine nay ?_
    refine au ?_
    refine pl_val _ rfl rfl (val_len l (by decide +kernel) rfl rfl w5) ?_
    refine pl_op rfl rfl (opTo_call (fst := []) (cap := []) rfl rfl rfl rfl (by decide +kernel) ((read_ret l.length hct (hw.keep hk05) hown5).mono ?_))
    rintro r w6 ⟨⟨x, rfl, hP⟩, hk6⟩
    obtain ⟨X, hX⟩ : ∃ X, X = readP (toksOf l) l.length := ⟨_, rfl⟩
    rw [← hX] at hP hP0 ⊢
    obtain ⟨⟨ga, gb⟩, hgl⟩ : ∃ f, f = fltOf X := ⟨_, rfl⟩
    rw [← hgl]
    obtain ⟨⟨vv, a, n, c, rfl, hnc⟩, _⟩ := hP.1, hP
    obtain ⟨F, hPV, hFb⟩ := hP.2
    have hPV' := hPV
    obtain ⟨vv', bv', he, hv, _⟩ := hPV'
    have hvv : vv = vv' := by
      injection he with he
      have := congrArg Array.toList he
      simp at this
      exact this.1
    subst hvv
    obtain ⟨av, cv, rfl⟩ := hv.form
    have hp6 := hk6.blk hp5 (by simp)
    have hf6 := hk6.blk hf5 (by simp)
    have hg6 := hk6.blk hg5 (by simp)
    have hk06 := hk05.tr hk6
    refine au ?_
    refine pl_op rfl rfl (opTo_allocN _ rfl zero_pr ?_)
    intro w7 b6 hb60 hs7 hk7 hq7
    refine pl_op rfl rfl (opTo_storeN [.slice av (prgOf X).1.length cv, .slice a n c] rfl rfl rfl rfl size_pr hq7 (by simp [pz]) (one_pr _ _ _ _ _ _) ?_)
    intro w8 hs8 hk8 hq8
    rw [splice_whole (by rfl)] at hq8
    have hk68 : Keep [] w6 w8 := hk7.trB hk8 (by omega)
    have hg8 := hk68.blk hg6 (by simp)
    have hb5lt := hg6.lt
    refine pl_op rfl rfl (opTo_storeN [.int .i64 ga, .int .i64 gb] rfl rfl rfl rfl size_fault hg8 (by simp) (one_fault _ _) ?_)
    intro w9 hs9 hk9 hg9
    rw [splice_whole (by rfl)] at hg9
    have hq9 := hk9.blk hq8 (by simp; omega)
    have hp9 := hk9.blk (hk68.blk hp6 (by simp)) (by simp; exact hb25)
    have hf9 := hk9.blk (hk68.blk hf6 (by simp)) (by simp; exact hb35)
    have hk09 : Keep [] w w9 := (hk06.tr hk68).trB hk9 hb5w
    have s56 := hk6.size
    have s25 := hk25.size
    have s02 := hk02.size
    have hst : Stays F w6 [] := fun c hc => ⟨(hFb c hc).2, by simp⟩
    have hst8 : Stays F w8 [b5] := fun c hc => ⟨Nat.lt_of_lt_of_le (hFb c hc).2 hk68.size, by simp; have := (hFb c hc).1; have := hg5.lt; omega⟩
    have hP9 : ProgV F w9 (.agg #[.slice av (prgOf X).1.length cv, .slice a n c]) (prgOf X).1 (prgOf X).2 := (hPV.keep hk68 hst).keep hk9 hst8
    have hin9 : In F w9 := fun c hc => by have := (hFb c hc).2; have := hk68.size; have := hk9.size; omega
    refine au ?_
    refine pl_val _ rfl rfl (val_load1 hT rfl rfl rfl (hg9.cell rfl)) ?_
    cases hXc : X with
    | error e =>
      rw [hXc] at hP0 hgl hP9
      have he1 : e = (ga, gb) := hgl.symm
      have hne : ga ≠ 0 := by
        have hpe : parseOf l = .error e := hP0
        have := parseOf_err hpe
        rw [he1] at this
        exact this
      refine ye ?_
      refine au ?_
      have hkd : Keep [] w9 w9.drew := (Keep.refl _ _).drew
      refine rn_draw (fun w' => True ∧ Blk w' b5 [.int .i64 ga, .int .i64 gb] 29) [] hMix ?_
      have hS : True ∧ Blk w9.drew b5 [.int .i64 ga, .int .i64 gb] 29 := ⟨trivial, hkd.blk hg9 (by simp)⟩
      refine dr_any 0 _ rfl (by decide +kernel) rfl rfl (fun w => val_build _ rfl rfl built_pr0 w) ?_
      refine dr_val 1 _ rfl (by decide +kernel) rfl rfl (fun w9 hS9 => val_load [.int .i64 ga, .int .i64 gb] hT rfl rfl rfl (hS9.2.range (by rfl))) hS ?_
      refine dr_op 2 rfl (by decide +kernel) rfl rfl (opTo_storeN pz rfl rfl rfl rfl size_pr (hkd.blk hp9 (by simp)) (by simp [pz]) (one_pr _ _ _ _ _ _) ?_)
      intro w10 hs10 hk10 hp10
      rw [splice_whole (by rfl)] at hp10
      refine ⟨fun _ => ⟨trivial, hk10.blk hS.2 (by simp; exact hb25.symm)⟩, ?_⟩
      have hf10 := hk10.blk (hkd.blk hf9 (by simp)) (by simp; omega)
      refine dr_op 3 rfl (by decide +kernel) rfl rfl (opTo_storeN [.int .i64 ga, .int .i64 gb] rfl rfl rfl rfl size_fault hf10 (by simp) (one_fault _ _) ?_)
      intro w11 hs11 hk11 hf11
      rw [splice_whole (by rfl)] at hf11
      have hp11 := hk11.blk hp10 (by simp; omega)
      refine ⟨fun _ => ⟨trivial, (hk11.blk (hk10.blk hS.2 (by simp; exact hb25.symm)) (by simp; exact hb35.symm))⟩, ?_⟩
      refine dr_done (by decide +kernel) ?_
      refine rn_retCC Tryz.func7 rfl rfl rfl (blk_loadVar hT hp11 rfl) (blk_loadVar hT hf11 rfl) ⟨⟨.agg pz.toArray, fun _ => False, ?_, ?_, capV_nil, fun c hc => hc.elim⟩, ((hk09.tr hkd).trB hk10 (by omega)).trB hk11 (by omega)⟩
      · rw [hP0, he1]
        rfl
      · rw [hP0]
        exact progV_nil
    | ok q =>
      obtain ⟨vs, body⟩ := q
      rw [hXc] at hP0 hgl hP9 hq9
      injection hgl with hga hgb
      subst hga hgb
      have hP1 : parseOf l = if progFault vs body ≠ 0 then .error (progFault vs body, -1) else .ok (vs, body) := hP0
      have hsz : szSs body ≤ 100000 := by
        have := readP_size (hX.symm.trans hXc)
        omega
      refine nay ?_
      refine au ?_
      refine pl_val _ rfl rfl (val_load [.slice av vs.length cv, .slice a n c] hT rfl rfl rfl (hq9.range (by rfl))) ?_
      have hP9' : ProgV F w9 (.agg #[.slice av vs.length cv, .slice a n c]) vs body := hP9
      refine pl_op rfl rfl (opTo_call (fst := []) (cap := []) rfl rfl rfl rfl (by decide +kernel) ((check_ret hP9' hin9 hsz).mono ?_))
      rintro r w10 ⟨rfl, hk10⟩
      obtain ⟨cd, hcd⟩ : ∃ cd, cd = progFault vs body := ⟨_, rfl⟩
      rw [← hcd] at hP1 ⊢
      have hp10 := hk10.blk hp9 (by simp)
      have hf10 := hk10.blk hf9 (by simp)
      have hq10 := hk10.blk hq9 (by simp)
      have hk010 := hk09.tr hk10
      refine au ?_
      by_cases hc0 : cd = 0
      · rw [if_neg (by simp [hc0])] at hP1
        refine nay ?_
        refine au ?_
        refine pl_val _ rfl rfl (val_load [.slice av vs.length cv, .slice a n c] hT rfl rfl rfl (hq10.range (by rfl))) ?_
        refine pl_val _ rfl rfl (val_build _ rfl rfl built_fault0 w10) ?_
        refine pl_op rfl rfl (opTo_storeN [.slice av vs.length cv, .slice a n c] rfl rfl rfl rfl size_pr hp10 (by simp [pz]) (one_pr _ _ _ _ _ _) ?_)
        intro w11 hs11 hk11 hp11
        rw [splice_whole (by rfl)] at hp11
        have hf11 := hk11.blk hf10 (by simp; omega)
        refine pl_op rfl rfl (opTo_storeN [.int .i64 0, .int .i64 0] rfl rfl rfl rfl size_fault hf11 (by simp) (one_fault _ _) ?_)
        intro w12 hs12 hk12 hf12
        rw [splice_whole (by rfl)] at hf12
        have hp12 := hk12.blk hp11 (by simp; omega)
        refine au ?_
        have hFlt : ∀ c, F c → w5.heap.size ≤ c := fun c hc => (hFb c hc).1
        have hb23 : b2 < w5.heap.size ∧ b3 < w5.heap.size := ⟨hp5.lt, hf5.lt⟩
        have hst10 : Stays F w9 [] := fun c hc => ⟨hin9 c hc, by simp⟩
        have hin10 : In F w10 := hin9.keep hk10
        have hst11 : Stays F w10 [b2] := fun c hc => ⟨hin10 c hc, by simp; have := hFlt c hc; omega⟩
        have hin11 : In F w11 := hin10.keep hk11
        have hst12 : Stays F w11 [b3] := fun c hc => ⟨hin11 c hc, by simp; have := hFlt c hc; omega⟩
        have hin12 : In F w12 := hin11.keep hk12
        have hP12 : ProgV F w12 (.agg #[.slice av vs.length cv, .slice a n c]) vs body := ((hP9'.keep hk10 hst10).keep hk11 hst11).keep hk12 hst12
        refine rn_retCC Tryz.func7 rfl rfl rfl (blk_loadVar hT hp12 rfl) (blk_loadVar hT hf12 rfl) ⟨⟨.agg #[.slice av vs.length cv, .slice a n c], F, ?_, ?_, ⟨_, a, n, c, rfl, hnc⟩, fun c hc => ?_⟩, (hk010.trB hk11 (by omega)).trB hk12 (by omega)⟩
        · rw [hP1]
          rfl
        · rw [hP1]
          exact hP12
        · have := hFlt c hc
          have := hin12 c hc
          have := hk05.size
          omega
      · rw [if_pos hc0] at hP1
        refine ye ?_
        refine au ?_
        refine pl_val _ rfl rfl (val_build _ rfl rfl built_pr0 w10) ?_
        refine au ?_
        refine pl_val _ rfl rfl (val_build _ rfl rfl (built_fault cd (-1)) w10) ?_
        refine pl_op rfl rfl (opTo_storeN pz rfl rfl rfl rfl size_pr hp10 (by simp [pz]) (one_pr _ _ _ _ _ _) ?_)
        intro w11 hs11 hk11 hp11
        rw [splice_whole (by rfl)] at hp11
        have hf11 := hk11.blk hf10 (by simp; omega)
        refine pl_op rfl rfl (opTo_storeN [.int .i64 cd, .int .i64 (-1)] rfl rfl rfl rfl size_fault hf11 (by simp) (one_fault _ _) ?_)
        intro w12 hs12 hk12 hf12
        rw [splice_whole (by rfl)] at hf12
        have hp12 := hk12.blk hp11 (by simp; omega)
        refine au ?_
        refine rn_retCC Tryz.func7 rfl rfl rfl (blk_loadVar hT hp12 rfl) (blk_loadVar hT hf12 rfl) ⟨⟨.agg pz.toArray, fun _ => False, ?_, ?_, capV_nil, fun c hc => hc.elim⟩, (hk010.trB hk11 (by omega)).trB hk12 (by omega)⟩
        · rw [hP1]
          rfl
        · rw [hP1]
          exact progV_nil
  · have hP0 : parseOf l = .error (fa, fb) := by
      unfold parseOf
      rw [if_pos (by rw [← hfl]; exact hz), hfl]
    refine ye ?_
    refine au ?_
    have hkd : Keep [] w5 w5.drew := (Keep.refl _ _).drew
    refine rn_draw (fun w' => True ∧ Blk w' b5 [.int .i64 fa, .int .i64 fb] 29) [] hMix ?_
    have hS : True ∧ Blk w5.drew b5 [.int .i64 fa, .int .i64 fb] 29 := ⟨trivial, hkd.blk hg5 (by simp)⟩
    refine dr_any 0 _ rfl (by decide +kernel) rfl rfl (fun w => val_build _ rfl rfl built_pr0 w) ?_
    refine dr_val 1 _ rfl (by decide +kernel) rfl rfl (fun w9 hS9 => val_load [.int .i64 fa, .int .i64 fb] hT rfl rfl rfl (hS9.2.range (by rfl))) hS ?_
    refine dr_op 2 rfl (by decide +kernel) rfl rfl (opTo_storeN pz rfl rfl rfl rfl size_pr (hkd.blk hp5 (by simp)) (by simp [pz]) (one_pr _ _ _ _ _ _) ?_)
    intro w10 hs10 hk10 hp10
    rw [splice_whole (by rfl)] at hp10
    refine ⟨fun _ => ⟨trivial, hk10.blk hS.2 (by simp; exact hb25.symm)⟩, ?_⟩
    have hf10 := hk10.blk (hkd.blk hf5 (by simp)) (by simp; omega)
    refine dr_op 3 rfl (by decide +kernel) rfl rfl (opTo_storeN [.int .i64 fa, .int .i64 fb] rfl rfl rfl rfl size_fault hf10 (by simp) (one_fault _ _) ?_)
    intro w11 hs11 hk11 hf11
    rw [splice_whole (by rfl)] at hf11
    have hp11 := hk11.blk hp10 (by simp; omega)
    refine ⟨fun _ => ⟨trivial, (hk11.blk (hk10.blk hS.2 (by simp; exact hb25.symm)) (by simp; exact hb35.symm))⟩, ?_⟩
    refine dr_done (by decide +kernel) ?_
    refine rn_retCC Tryz.func7 rfl rfl rfl (blk_loadVar hT hp11 rfl) (blk_loadVar hT hf11 rfl) ⟨⟨.agg pz.toArray, fun _ => False, ?_, ?_, capV_nil, fun c hc => hc.elim⟩, ((hk05.tr hkd).trB hk10 (by omega)).trB hk11 (by omega)⟩
    · rw [hP0]
      rfl
    · rw [hP0]
      exact progV_nil

theorem pkC : PkC where
  parse l hl _ hw := parse_ret l hl hw
  word k _ hw := (pWord_ret k hw.lt).mono fun _ _ ⟨h1, h2⟩ => ⟨h1, h2 ▸ Keep.refl _ _⟩
  verb k _ hw := (pVerb_ret k hw.lt).mono fun _ _ ⟨h1, h2⟩ => ⟨h1, h2 ▸ Keep.refl _ _⟩
end E
end Go.Proofs.YtbojicehfbeepadGreatDoor

/- Laws of single operations that strings.Builder's methods take: a pointer held against nil and against itself, turned to a bare pointer and back, abi.NoEscape; a string appended to bytes; SliceData and String of bytes. -/
namespace Go.Proofs.YtbojicehfbeepadGreatDoor
set_option maxRecDepth 20000
set_option maxHeartbeats 4000000
namespace E
open Go.Proofs

section
variable {P : Program} {T : Tbl} {n : Nat} {σ : Env} {o : Oper} {w : World} {v : Value}

theorem val_nilNil {t t' : Nat} {x : Operand} (h : isPtr P t = true) (ho : o.op = .binOp .eql t x (.const (.pointer none)) t') (hx : ev σ x = some (.pointer none)) (w : World) : Val P n σ o w (.bool true) := by
  intro ac ha
  unfold isPtr at h
  split at h
  · rename_i e hu
    have he : ∀ d, (Op.equalIn (d + 1) t (.pointer none) (.pointer none)).run P w = .ok true w := fun d => by
      simp [Op.equalIn, run_underlying hu]
    have he' : (Op.equal t (.pointer none) (.pointer none)).run P w = .ok true w := he 9999
    have hc : ac.eval (.const (.pointer none)) = .pointer none := rfl
    simp [execOp, ho, ha.eval hx, hc, eqGuard, binOp, he']
  · cases h

def ptrSz (P : Program) (t : Nat) : Bool :=
  match P.underlying t with
  | some (.pointer e) => match P.info? e with
    | some i => i.size != 0
    | none => false
  | _ => false
theorem val_neSelf {t t' : Nat} {x y : Operand} {ad : Addr} (h : ptrSz P t = true) (ho : o.op = .binOp .neq t x y t') (hx : ev σ x = some (.pointer (some ad))) (hy : ev σ y = some (.pointer (some ad))) (w : World) : Val P n σ o w (.bool false) := by
  intro ac ha
  unfold ptrSz at h
  split at h
  · rename_i e hu
    split at h
    · rename_i i hi
      have he := Lib.run_neq_ptr_same (P := P) w ad hu hi
      simp [execOp, ho, ha.eval hx, ha.eval hy, eqGuard, he]
    · cases h
  · cases h

def isUns (P : Program) (t : Nat) : Bool :=
  match P.underlying t with
  | some .unsafePointer => true
  | _ => false
theorem isUns_spec {t : Nat} (h : isUns P t = true) : P.underlying t = some .unsafePointer := by
  unfold isUns at h
  split at h
  · assumption
  · cases h

theorem val_toUnsafe {s d : Nat} {x : Operand} {b i : Nat} {L : List Value} {e : TypeId} (h : ptrSz P s = true) (hd : isUns P d = true) (ho : o.op = .convert s d x) (hx : ev σ x = some (.pointer (some ⟨b, i, none⟩))) (hb : Blk w b L e) (hi : i < L.length) : Val P n σ o w (.pointer (some ⟨b, i, none⟩)) := by
  intro ac ha
  unfold ptrSz at h
  split at h
  · rename_i u hu
    split at h
    · rename_i j hj
      have hne : j.size ≠ 0 := by simpa using h
      have hb' := hb
      unfold Blk at hb'
      have hr := Lib.run_to_unsafe (P := P) w ⟨b, i, none⟩ hu (isUns_spec hd) hj hne (e := e) (cells := L.length) (by simp [World.shape?, hb']) hi
      simp [execOp, ho, ha.eval hx, hr]
    · cases h
  · cases h

def liesOk (P : Program) (d e cells i : Nat) : Bool :=
  match P.underlying d with
  | some (.pointer u) => (match P.info? u with | some _ => true | none => false) && liesAt P P.depth e (cells / P.cellsOf e) i u 1
  | _ => false
theorem val_fromUnsafe {s d : Nat} {x : Operand} {b i : Nat} {L : List Value} {e : TypeId} (h : liesOk P d e L.length i = true) (hs : isUns P s = true) (ho : o.op = .convert s d x) (hx : ev σ x = some (.pointer (some ⟨b, i, none⟩))) (hb : Blk w b L e) : Val P n σ o w (.pointer (some ⟨b, i, none⟩)) := by
  intro ac ha
  unfold liesOk at h
  split at h
  · rename_i u hu
    simp only [Bool.and_eq_true] at h
    obtain ⟨h1, h2⟩ := h
    split at h1
    · rename_i j hj
      have hb' := hb
      unfold Blk at hb'
      have hr := Lib.run_from_unsafe (P := P) w ⟨b, i, none⟩ (isUns_spec hs) hu hj (e := e) (cells := L.length) (by simp [World.shape?, hb']) h2
      simp [execOp, ho, ha.eval hx, hr]
    · cases h1
  · cases h

/-- abi.NoEscape: the pointer as it is. -/
theorem val_noEscape {c : Call} {x : Operand} {g : Nat} {fn : Func} {v : Value} (ho : o.op = .call c) (hc : c.callee = .value x) (hx : ev σ x = some (.func (.func g) #[] #[])) (hv : evs σ c.args.toList = some [v])
    (hf : P.funcs[g]? = some fn) (hname : (fn.name == "runtime.NumGoroutine") = false) (hb : fn.body.isNone = true) (hn : Extern.findNext fn = none) (he : Extern.find fn = some Extern.AbiNoEscape.same) (w : World) : Val P n σ o w v := by
  intro ac ha
  have hargs := map_eq_toArray (ha.evals hv)
  have hr := run_callFunc_extern hf hname hb hn he #[v] w
  rw [Lib.run_noEscape] at hr
  simp only [Result.andThen] at hr
  simp [execOp, ho, resolve, hc, hargs, ha.eval hx, Deferred.ofValue, invoke, hr]

/-- A slice of bytes. -/
def byteSl (P : Program) (t e : Nat) : Bool :=
  match P.underlying t with
  | some (.slice e') => e' == e && (match P.info? e with
    | some i => i.size == 1 && i.bytes == 1 && (match i.zero with | some (.int .u8 z) => z == 0 | _ => false)
    | none => false)
  | _ => false
theorem byteSl_spec {t e : Nat} (h : byteSl P t e = true) : ∃ i, P.underlying t = some (.slice e) ∧ P.info? e = some i ∧ i.zero = some (.int .u8 0) ∧ i.size = 1 ∧ i.bytes = 1 := by
  unfold byteSl at h
  split at h
  · rename_i e' hu
    simp only [Bool.and_eq_true, beq_iff_eq] at h
    obtain ⟨rfl, h⟩ := h
    split at h
    · rename_i i hi
      simp only [Bool.and_eq_true, beq_iff_eq] at h
      obtain ⟨⟨h1, h2⟩, h3⟩ := h
      split at h3
      · rename_i z hz
        have : z = 0 := by simpa using h3
        subst this
        exact ⟨i, hu, hi, hz, h1, h2⟩
      · cases h3
    · cases h
  · cases h

theorem opTo_appStr {t u : TypeId} {s x : Operand} {ln : Nat} {K : Value → World → Prop} (base e : Nat) (xs : List Value) (l : List UInt8)
    (ho : o.op = .call { callee := .builtin .append, args := #[s, x], argTypes := #[t, u] }) (hs : ev σ s = some v) (hx : ev σ x = some (.string (str l)))
    (hP : byteSl P t e = true) (hu : isStr P u = true) (hown : w.ownsRow base e 1 v ln xs) (hb : ln + l.length ≤ 100000000) (hbase : base ≤ w.heap.size)
    (hK : ∀ v' w', w'.ownsRow base e 1 v' (ln + l.length) (xs ++ Lib.byteCells l) → w.grownBy w' v.ownBlock → K v' w') : OpTo P n σ o w K := by
  obtain ⟨i, h1, h2, h3, h4, h5⟩ := byteSl_spec hP
  have hsz := str_size l
  obtain ⟨v', w', hr, g1, g2, _⟩ := Lib.run_append_own_string (P := P) w base t u o.type e i h1 (isStr_spec hu) h2 h3 h4 h5 v ln xs hown (str l) (by unfold maxLen; omega) (by omega) hbase
  rw [hsz, Lib.strCells_eq, str_list] at g1
  refine opTo_run (w' := w') (v := v') (fun a ha => ?_) (hK _ _ g1 g2)
  simp [execOp, ho, resolve, invoke, builtin, ha.eval hs, ha.eval hx, hr]

/-- SliceData of a slice with room. -/
theorem val_sliceData {t : TypeId} {x : Operand} {ad : Addr} {ln cap : Nat} (ho : o.op = .call { callee := .builtin .unsafeSliceData, args := #[x], argTypes := #[t] }) (hx : ev σ x = some (.slice (some ad) ln cap)) (hc : cap ≠ 0) (w : World) : Val P n σ o w (.pointer (some ad)) := by
  intro ac ha
  have hr := Lib.run_unsafeSliceData_row (P := P) w #[t] o.type ad ln cap hc
  simp [execOp, ho, resolve, invoke, builtin, ha.eval hx, hr]
theorem val_sliceDataNil {t : TypeId} {x : Operand} {ln cap : Nat} (ho : o.op = .call { callee := .builtin .unsafeSliceData, args := #[x], argTypes := #[t] }) (hx : ev σ x = some (.slice none ln cap)) (w : World) : Val P n σ o w (.pointer none) := by
  intro ac ha
  have hr := Lib.run_unsafeSliceData_nil (P := P) w #[t] o.type ln cap
  simp [execOp, ho, resolve, invoke, builtin, ha.eval hx, hr]
theorem val_uStr0 {t u : TypeId} {x y : Operand} {q : Option Addr} (ho : o.op = .call { callee := .builtin .unsafeString, args := #[x, y], argTypes := #[t, u] }) (hx : ev σ x = some (.pointer q)) (hy : ev σ y = some (.int .i64 0)) (w : World) : Val P n σ o w (.string (str [])) := by
  intro ac ha
  have hr := Lib.run_unsafeString_none (P := P) w t u o.type q
  simp [execOp, ho, resolve, invoke, builtin, ha.eval hx, ha.eval hy, hr]
  rfl
def bytePtr (P : Program) (t e : Nat) : Bool :=
  match P.underlying t with
  | some (.pointer e') => e' == e && P.cellsOf e == 1
  | _ => false
/-- The string of a row of bytes: they are frozen in their row. -/
theorem opTo_uStr {t u : TypeId} {x y : Operand} {g e cap ln base : Nat} {K : Value → World → Prop} (l : List UInt8) (ho : o.op = .call { callee := .builtin .unsafeString, args := #[x, y], argTypes := #[t, u] }) (hx : ev σ x = some (.pointer (some ⟨g, 0, none⟩))) (hy : ev σ y = some (.int .i64 (l.length : Nat)))
    (hP : bytePtr P t e = true) (h0 : l ≠ []) (hown : w.ownsRow base e 1 (.slice (some ⟨g, 0, none⟩) ln cap) l.length (Lib.byteCells l)) (hK : K (.string (str l)) (w.freeze ⟨g, 0, none⟩ l.length)) : OpTo P n σ o w K := by
  unfold bytePtr at hP
  split at hP
  · rename_i e' hu
    simp only [Bool.and_eq_true, beq_iff_eq] at hP
    obtain ⟨rfl, hc⟩ := hP
    have hl0 : l.length ≠ 0 := by simpa using h0
    have hcells := hown.cells (g := g) rfl
    rcases hown.2 with ⟨hv, _⟩ | ⟨g', cap', cur, hv, _, hg, hnc, hcm, hcs, _⟩
    · cases hv
    · cases hv
      have hr := Lib.run_unsafeString_row (P := P) w t u o.type e' hu hc g cur.size (by simp [World.shape?, hg]) l h0 (by omega) (by unfold maxLen at hcm; omega) (fun j x hx => hcells j (.int .u8 x.toNat) (by simp [Lib.byteCells, hx]))
      refine opTo_run (w' := w.freeze ⟨g, 0, none⟩ l.length) (v := .string (str l)) (fun a ha => ?_) hK
      simp [execOp, ho, resolve, invoke, builtin, ha.eval hx, ha.eval hy, hr]
      rfl
  · cases hP
end

theorem byteCells_one (l : List UInt8) : ∀ u ∈ Lib.byteCells l, u.oneCell' = true := by
  intro u hu
  simp only [Lib.byteCells, List.mem_map] at hu
  obtain ⟨x, _, rfl⟩ := hu
  rfl
theorem keep_freeze {w0 w : World} {g m : Nat} (h : Keep [] w0 w) (hg : w0.heap.size ≤ g) : Keep [] w0 (w.freeze ⟨g, 0, none⟩ m) :=
  have hb := Lib.below_freeze (h.below fun k hk => by cases hk) (p := ⟨g, 0, none⟩) hg m
  ⟨hb.os, hb.tape, hb.output, hb.size, fun k hk _ => hb.block k hk⟩
end E
end Go.Proofs.YtbojicehfbeepadGreatDoor

/- What a tree must be to be printed; how long its print is. -/
namespace Go.Proofs.YtbojicehfbeepadGreatDoor
set_option maxRecDepth 20000
set_option maxHeartbeats 4000000
namespace E
open Go.Proofs Go.Lib

mutual
def prE (nv : Nat) : ET → Prop
  | .mk op v n l => 1 ≤ op ∧ op ≤ 8 ∧ (op = 2 ∨ op = 3 → 0 ≤ v ∧ v.toNat < nv) ∧ in64 n ∧ prEs nv l
def prEs (nv : Nat) : List ET → Prop
  | [] => True
  | t :: r => prE nv t ∧ prEs nv r
end
mutual
def prS (nv : Nat) : ST → Prop
  | .mk op v e f b o => 1 ≤ op ∧ op ≤ 7 ∧ (needV op = true → 0 ≤ v ∧ v.toNat < nv) ∧ (needE op = true → prE nv e) ∧ (needF op = true → prE nv f) ∧ prSs nv b ∧ prSs nv o
def prSs (nv : Nat) : List ST → Prop
  | [] => True
  | t :: r => prS nv t ∧ prSs nv r
end
theorem prEs_at {nv : Nat} : ∀ {l : List ET} {i : Nat} {t : ET}, prEs nv l → l[i]? = some t → prE nv t
  | [], _, _, _, h => by simp at h
  | x :: r, 0, t, h, e => by simp at e; subst e; exact h.1
  | x :: r, i + 1, t, h, e => by simp at e; exact prEs_at h.2 e
theorem prSs_at {nv : Nat} : ∀ {l : List ST} {i : Nat} {t : ST}, prSs nv l → l[i]? = some t → prS nv t
  | [], _, _, _, h => by simp at h
  | x :: r, 0, t, h, e => by simp at e; subst e; exact h.1
  | x :: r, i + 1, t, h, e => by simp at e; exact prSs_at h.2 e
mutual
theorem chkE_pr {nv : Nat} : ∀ (t : ET) {d k k' : Nat}, chkE nv t d k = .ok k' → longE t → prE nv t
  | .mk op v n l, d, k, k', h, hl => by
    obtain ⟨_, h1, k1, h2⟩ := chkE_inv h
    obtain ⟨a, b, _, _, c, _⟩ := ownE_inv h1
    exact ⟨a, b, c, hl.1, chkEs_pr l h2 hl.2⟩
theorem chkEs_pr {nv : Nat} : ∀ (l : List ET) {d k k' : Nat}, chkEs nv l d k = .ok k' → longEs l → prEs nv l
  | [], _, _, _, _, _ => trivial
  | t :: r, d, k, k', h, hl => by
    obtain ⟨⟨k1, h1⟩, k2, h2⟩ := chkEs_inv h
    exact ⟨chkE_pr t h1 hl.1, chkEs_pr r h2 hl.2⟩
end
mutual
theorem chkS_pr {nv : Nat} : ∀ (t : ST) {d k k' : Nat}, chkS nv t d k = .ok k' → longSt t → prS nv t
  | .mk op v e f b o, d, k, k', h, hl => by
    obtain ⟨_, h1, h2, h3, ⟨k1, k2, h4⟩, k3, k4, h5⟩ := chkS_inv h
    obtain ⟨a, a', _, _, _, _, c, _⟩ := ownS_inv h1
    exact ⟨a, a', c, fun hn => (let ⟨_, _, hc⟩ := h2 hn; chkE_pr e hc hl.1), fun hn => (let ⟨_, _, hc⟩ := h3 hn; chkE_pr f hc hl.2.1), chkSs_pr b h4 hl.2.2.1, chkSs_pr o h5 hl.2.2.2⟩
theorem chkSs_pr {nv : Nat} : ∀ (l : List ST) {d k k' : Nat}, chkSs nv l d k = .ok k' → longSs l → prSs nv l
  | [], _, _, _, _, _ => trivial
  | t :: r, d, k, k', h, hl => by
    obtain ⟨⟨k1, h1⟩, k2, h2⟩ := chkSs_inv h
    exact ⟨chkS_pr t h1 hl.1, chkSs_pr r h2 hl.2⟩
end

/-! ### Lengths -/
def nm8 (vs : List VarT) : Prop := ∀ y ∈ vs, y.1.size ≤ 8
theorem nameV_len {vs : List VarT} (h : nm8 vs) (v : Nat) : (nameV vs v).length ≤ 8 := by
  unfold nameV
  rw [List.getD_eq_getElem?_getD]
  cases hv : vs[v]? with
  | none => simp
  | some y =>
    have := h y (List.mem_of_getElem? hv)
    rw [Option.getD_some, size_toList]
    exact this
theorem wordT_len (k : Nat) : (wordT k).length ≤ 8 := by
  unfold wordT
  repeat' split
  all_goals decide
theorem verbT_len (k : Nat) : (verbT k).length ≤ 8 := by
  unfold verbT
  repeat' split
  all_goals decide
mutual
theorem printE_len {vs : List VarT} {nv : Nat} (hn : nm8 vs) : ∀ (t : ET), prE nv t → (printE vs t).length + 1 ≤ 64 * szE t
  | .mk op v n l, h => by
    obtain ⟨_, _, _, h4, h5⟩ := h
    have i1 := printEs_len hn l h5
    have i2 := wordT_len op.toNat
    have i3 := nameV_len hn v.toNat
    have i4 := itoa_length_le n h4.1 h4.2
    simp only [printE, szE]
    split <;> split <;> simp only [List.length_cons, List.length_append, List.length_nil] <;> omega
theorem printEs_len {vs : List VarT} {nv : Nat} (hn : nm8 vs) : ∀ (l : List ET), prEs nv l → (printEs vs l).length ≤ 64 * szEs l
  | [], _ => by simp [printEs]
  | t :: r, h => by
    have i1 := printE_len hn t h.1
    have i2 := printEs_len hn r h.2
    simp only [printEs, szEs, List.length_cons, List.length_append]
    omega
end
mutual
theorem printS_len {vs : List VarT} {nv : Nat} (hn : nm8 vs) : ∀ (t : ST), prS nv t → (printS vs t).length + 1 ≤ 64 * szS t
  | .mk op v e f b o, h => by
    obtain ⟨_, _, _, h4, h5, h6, h7⟩ := h
    have i1 := printSs_len hn b false h6
    have i1' := printSs_len hn o false h7
    have i2 := verbT_len op.toNat
    have i3 := nameV_len hn v.toNat
    have i4 : (if needE op = true then 32 :: printE vs e else []).length ≤ 64 * szE e := by
      split
      · rename_i hh
        have := printE_len hn e (h4 hh)
        simp only [List.length_cons]; omega
      · simp
    have i5 : (if needF op = true then 32 :: printE vs f else []).length ≤ 64 * szE f := by
      split
      · rename_i hh
        have := printE_len hn f (h5 hh)
        simp only [List.length_cons]; omega
      · simp
    have i6 : (if needV op = true then 32 :: nameV vs v.toNat else []).length ≤ 9 := by
      split
      · simp only [List.length_cons]; omega
      · simp
    have i7 : (if needB op = true then 32 :: 40 :: (printSs vs false b ++ [41]) else []).length ≤ 64 * szSs b + 3 := by
      split
      · simp only [List.length_cons, List.length_append, List.length_nil]; omega
      · simp
    have i8 : (if needO op = true then 32 :: 40 :: (printSs vs false o ++ [41]) else []).length ≤ 64 * szSs o + 3 := by
      split
      · simp only [List.length_cons, List.length_append, List.length_nil]; omega
      · simp
    simp only [printS, szS, List.length_cons, List.length_append, List.length_nil]
    omega
theorem printSs_len {vs : List VarT} {nv : Nat} (hn : nm8 vs) : ∀ (l : List ST) (c : Bool), prSs nv l → (printSs vs c l).length ≤ 64 * szSs l
  | [], _, _ => by simp [printSs]
  | t :: r, c, h => by
    have i1 := printS_len hn t h.1
    have i2 := printSs_len hn r true h.2
    cases c <;> simp [printSs, szSs, List.length_append] <;> omega
end
/-! ### One more -/
theorem printEs_snoc (vs : List VarT) (t : ET) : ∀ (l : List ET), printEs vs (l ++ [t]) = printEs vs l ++ 32 :: printE vs t
  | [] => by simp [printEs]
  | x :: r => by simp only [List.cons_append, printEs, printEs_snoc vs t r, List.append_assoc]
theorem printSs_snoc (vs : List VarT) (t : ST) : ∀ (l : List ST) (c : Bool), printSs vs c (l ++ [t]) = printSs vs c l ++ ((if c || decide (0 < l.length) then [32] else []) ++ printS vs t)
  | [], c => by cases c <;> simp [printSs]
  | x :: r, c => by
    simp only [List.cons_append, printSs, printSs_snoc vs t r true, List.append_assoc]
    cases c <;> simp
theorem printEs_take (vs : List VarT) {l : List ET} {i : Nat} {t : ET} (h : l[i]? = some t) : printEs vs (l.take (i + 1)) = printEs vs (l.take i) ++ 32 :: printE vs t := by
  obtain ⟨hi, rfl⟩ := List.getElem?_eq_some_iff.1 h
  rw [List.take_succ_eq_append_getElem hi, printEs_snoc]
theorem printSs_take (vs : List VarT) {l : List ST} {i : Nat} {t : ST} (h : l[i]? = some t) : printSs vs false (l.take (i + 1)) = printSs vs false (l.take i) ++ ((if 0 < i then [32] else []) ++ printS vs t) := by
  obtain ⟨hi, rfl⟩ := List.getElem?_eq_some_iff.1 h
  rw [List.take_succ_eq_append_getElem hi, printSs_snoc]
  have e : (l.take i).length = i := by simp; omega
  rw [e]
  simp
theorem printB_snoc (vs : List VarT) (t : ST) : ∀ (l : List ST), printB vs (l ++ [t]) = printB vs l ++ (printS vs t ++ [10])
  | [] => by simp [printB]
  | x :: r => by simp only [List.cons_append, printB, printB_snoc vs t r, List.append_assoc]
theorem printB_take (vs : List VarT) {l : List ST} {i : Nat} {t : ST} (h : l[i]? = some t) : printB vs (l.take (i + 1)) = printB vs (l.take i) ++ (printS vs t ++ [10]) := by
  obtain ⟨hi, rfl⟩ := List.getElem?_eq_some_iff.1 h
  rw [List.take_succ_eq_append_getElem hi, printB_snoc]
theorem printV_snoc (x : VarT) : ∀ (l : List VarT), printV (l ++ [x]) = printV l ++ (letT ++ 32 :: (x.1.data.toList ++ 32 :: (itoa x.2 ++ [10])))
  | [] => by simp [printV]
  | y :: r => by simp only [List.cons_append, printV, printV_snoc x r, List.append_assoc]
theorem printV_take {l : List VarT} {i : Nat} {x : VarT} (h : l[i]? = some x) : printV (l.take (i + 1)) = printV (l.take i) ++ (letT ++ 32 :: (x.1.data.toList ++ 32 :: (itoa x.2 ++ [10]))) := by
  obtain ⟨hi, rfl⟩ := List.getElem?_eq_some_iff.1 h
  rw [List.take_succ_eq_append_getElem hi, printV_snoc]
theorem printB_len {vs : List VarT} {nv : Nat} (hn : nm8 vs) : ∀ (l : List ST), prSs nv l → (printB vs l).length ≤ 64 * szSs l
  | [], _ => by simp [printB]
  | t :: r, h => by
    have i1 := printS_len hn t h.1
    have i2 := printB_len hn r h.2
    simp only [printB, szSs, List.length_cons, List.length_append]
    omega
theorem prSs_take {nv : Nat} : ∀ {l : List ST} (i : Nat), prSs nv l → prSs nv (l.take i)
  | [], i, _ => by simp [prSs]
  | x :: r, 0, _ => by simp [prSs]
  | x :: r, i + 1, h => by simp only [List.take_succ_cons]; exact ⟨h.1, prSs_take i h.2⟩
theorem prEs_take {nv : Nat} : ∀ {l : List ET} (i : Nat), prEs nv l → prEs nv (l.take i)
  | [], i, _ => by simp [prEs]
  | x :: r, 0, _ => by simp [prEs]
  | x :: r, i + 1, h => by simp only [List.take_succ_cons]; exact ⟨h.1, prEs_take i h.2⟩
end E
end Go.Proofs.YtbojicehfbeepadGreatDoor

/- Plain mathematics of writing word by word: where blanks stand; what is no bracket. -/
namespace Go.Proofs.YtbojicehfbeepadGreatDoor
set_option maxRecDepth 20000
set_option maxHeartbeats 4000000
namespace E
open Go.Lib

/-- A blank, if one is to stand ahead of the next word. -/
def sp (ap : Bool) : List UInt8 := if ap then [32] else []
abbrev TxS := List UInt8 × Bool
/-- One word more. -/
def wdT (s : TxS) (x : List UInt8) : TxS := (s.1 ++ ((if s.2 && !(x == [41]) then [32] else []) ++ x), !(x == [40]))
theorem wd_open (L : List UInt8) (ap : Bool) : wdT (L, ap) [40] = (L ++ (sp ap ++ [40]), false) := by cases ap <;> rfl
theorem wd_close (L : List UInt8) (ap : Bool) : wdT (L, ap) [41] = (L ++ [41], true) := by cases ap <;> rfl
/-- It is no bracket. -/
def Plain (x : List UInt8) : Prop := x ≠ [40] ∧ x ≠ [41]
theorem wd_word {x : List UInt8} (h : Plain x) (L : List UInt8) (ap : Bool) : wdT (L, ap) x = (L ++ (sp ap ++ x), true) := by
  unfold wdT sp
  have h1 : (x == [40]) = false := by simpa using h.1
  have h2 : (x == [41]) = false := by simpa using h.2
  simp [h1, h2]
theorem plain_word {k : Nat} : Plain (wordT k) := by
  unfold wordT
  repeat' split
  all_goals exact ⟨by decide, by decide⟩
theorem plain_verb {k : Nat} : Plain (verbT k) := by
  unfold verbT
  repeat' split
  all_goals exact ⟨by decide, by decide⟩
theorem plain_itoa (n : Int) : Plain (itoa n) := by
  obtain ⟨c, u, h, hc, _⟩ := itoa_form n
  have := (dig_plain hc).2.1
  constructor <;> (intro h2; rw [h] at h2; injection h2 with h3 _; subst h3; revert this; decide)
theorem plain_name {x : List UInt8} (h : nameB x = true) : Plain x := by
  have h1 := nameB_let h
  constructor <;> (intro h2; subst h2; revert h1; decide)
theorem plain_nameV {vs : List VarT} (hg : GoodV vs) {v : Nat} (hv : v < vs.length) : Plain (nameV vs v) := by
  unfold nameV
  rw [List.getD_eq_getElem?_getD, List.getElem?_eq_getElem hv, Option.getD_some]
  exact plain_name (hg _ (List.getElem_mem hv)).1
theorem wdT_len (s : TxS) (x : List UInt8) : (wdT s x).1.length ≤ s.1.length + x.length + 1 := by
  unfold wdT
  simp only [List.length_append]
  split <;> simp <;> omega
theorem foldl_take {α β : Type} (g : β → α → β) (z : β) {l : List α} {i : Nat} {x : α} (h : l[i]? = some x) : (l.take (i + 1)).foldl g z = g ((l.take i).foldl g z) x := by
  obtain ⟨hi, rfl⟩ := List.getElem?_eq_some_iff.1 h
  rw [List.take_succ_eq_append_getElem hi, List.foldl_append]
  rfl
/-- How long the words are at most, with a blank each. -/
def wsL (xs : List (List UInt8)) : Nat := (xs.map fun x => x.length + 1).sum
theorem fold_len : ∀ (xs : List (List UInt8)) (s : TxS), (xs.foldl wdT s).1.length ≤ s.1.length + wsL xs
  | [], s => by simp [wsL]
  | x :: r, s => by
    have h1 := wdT_len s x
    have h2 := fold_len r (wdT s x)
    simp only [List.foldl_cons, wsL, List.map_cons, List.sum_cons] at h2 ⊢
    omega
theorem wsL_take (xs : List (List UInt8)) (i : Nat) : wsL (xs.take i) ≤ wsL xs := by
  induction xs generalizing i with
  | nil => simp [wsL]
  | cons x r ih =>
    cases i with
    | zero => simp [wsL]
    | succ i =>
      have := ih i
      simp only [List.take_succ_cons, wsL, List.map_cons, List.sum_cons] at this ⊢
      omega
end E
end Go.Proofs.YtbojicehfbeepadGreatDoor

/- The landed writer: how it lies in memory; contracts of strings.Builder's methods at it, of words and of endLine. -/
namespace Go.Proofs.YtbojicehfbeepadGreatDoor
set_option maxRecDepth 20000
set_option maxHeartbeats 4000000
namespace E
open Go.Proofs

abbrev TW : Nat := 65
abbrev TB : Nat := 5

/-- What writing leaves alone: all blocks but those of bytes and of writers. -/
structure Ofs (w w' : World) : Prop where
  size : w.heap.size ≤ w'.heap.size
  blk : ∀ {c : Nat} {L : List Value} {e : TypeId}, Blk w c L e → e ≠ TW → e ≠ TB → Blk w' c L e
theorem Ofs.refl (w : World) : Ofs w w := ⟨Nat.le_refl _, fun h _ _ => h⟩
theorem Ofs.tr {w w' w'' : World} (h : Ofs w w') (h' : Ofs w' w'') : Ofs w w'' := ⟨Nat.le_trans h.size h'.size, fun hb h1 h2 => h'.blk (h.blk hb h1 h2) h1 h2⟩
theorem Ofs.of0 {w w' : World} (h : Keep [] w w') : Ofs w w' := ⟨h.size, fun hb _ _ => h.blk hb (by simp)⟩
theorem Ofs.of {w w' : World} {fp : List Nat} (h : Keep fp w w') (hf : ∀ k ∈ fp, ∃ L e, Blk w k L e ∧ (e = TW ∨ e = TB)) : Ofs w w' :=
  ⟨h.size, fun hb h1 h2 => h.blk hb fun hm => by
    obtain ⟨L, e, hb', he⟩ := hf _ hm
    rcases he with he | he
    · exact Blk.ne hb hb' (fun h => h1 (h.trans he)) rfl
    · exact Blk.ne hb hb' (fun h => h2 (h.trans he)) rfl⟩

/-- The writer at b, over a world w0 in which it was not yet: the bytes L so far; whether a blank is to stand ahead of the next word; its variables. -/
structure Wp (w0 w : World) (b : Nat) (p v : Value) (L : List UInt8) (ap : Bool) (vv : Value) : Prop where
  kp : Keep [] w0 w
  ge : w0.heap.size ≤ b
  bk : Blk w b [p, v, .bool ap, vv] TW
  own : w.ownsRow w0.heap.size TB 1 v L.length (Lib.byteCells L)
  nz : L = [] → v = .slice none 0 0
abbrev selfP (b : Nat) : Value := .pointer (some ⟨b, 0, none⟩)
def Wt (w0 w : World) (b : Nat) (L : List UInt8) (ap : Bool) (vv : Value) : Prop := ∃ p v, Wp w0 w b p v L ap vv ∧ (p = .pointer none ∨ p = selfP b)

theorem neWB : TW ≠ TB := by decide
section
variable {w0 w w1 w2 : World} {b : Nat} {p p' v v' vv : Value} {L L' : List UInt8} {ap ap' : Bool}
theorem wown_ne (h : w.ownsRow w0.heap.size TB 1 v L.length (Lib.byteCells L)) {X : List Value} (hb : Blk w b X TW) : ∀ k, v.ownBlock = some k → k ≠ b := fun k hk e => by
  subst e
  exact Lib.ownBlock_ne h hb neWB hk
theorem Wp.keep0 (h : Wp w0 w b p v L ap vv) (hk : Keep [] w w1) : Wp w0 w1 b p v L ap vv :=
  ⟨h.kp.tr hk, h.ge, hk.blk h.bk (by simp), hk.owns h.own fun k _ => by simp, h.nz⟩
theorem Wt.keep0 (h : Wt w0 w b L ap vv) (hk : Keep [] w w1) : Wt w0 w1 b L ap vv := let ⟨p, v, h, hp⟩ := h; ⟨p, v, h.keep0 hk, hp⟩
theorem Wt.kp (h : Wt w0 w b L ap vv) : Keep [] w0 w := let ⟨_, _, h, _⟩ := h; h.kp
theorem Wp.set (h : Wp w0 w b p v L ap vv) (hk : Keep [b] w w1) (hb : Blk w1 b [p', v, .bool ap', vv] TW) : Wp w0 w1 b p' v L ap' vv ∧ Ofs w w1 :=
  ⟨⟨h.kp.trB hk h.ge, h.ge, hb, hk.owns h.own fun k hk' => by simpa using wown_ne h.own h.bk k hk', h.nz⟩, Ofs.of hk fun k hk' => ⟨[p, v, .bool ap, vv], TW, by rw [List.mem_singleton.1 hk']; exact h.bk, .inl rfl⟩⟩
theorem grown_bk (h : Wp w0 w b p v L ap vv) (hg : w.grownBy w1 v.ownBlock) : Blk w1 b [p, v, .bool ap, vv] TW :=
  (keep_grown hg).blk h.bk fun hm => by
    simp only [Option.mem_toList] at hm
    exact wown_ne h.own h.bk b hm rfl
theorem own_blk (h : w.ownsRow w0.heap.size TB 1 v L.length (Lib.byteCells L)) {k : Nat} (hk : v.ownBlock = some k) : ∃ X, Blk w k X TB := by
  rcases h.2 with ⟨rfl, _⟩ | ⟨g, cap, cur, rfl, _, hg, _⟩
  · simp [Value.ownBlock] at hk
  · simp only [Value.ownBlock, Option.some.injEq] at hk
    subst hk
    exact ⟨cur.toList, by unfold Blk; rw [Array.toArray_toList]; exact hg⟩
theorem Wp.app (h : Wp w0 w b p v L ap vv) (hg : w.grownBy w1 v.ownBlock) (hown : w1.ownsRow w0.heap.size TB 1 v' L'.length (Lib.byteCells L')) (hk : Keep [b] w1 w2) (hb : Blk w2 b [p, v', .bool ap, vv] TW) (h0 : L' ≠ []) : Wp w0 w2 b p v' L' ap vv ∧ Ofs w w2 := by
  have hb1 := grown_bk h hg
  have hkg := keep_grown hg
  refine ⟨⟨(h.kp.trans hkg fun k hk' => .inr ?_).trB hk h.ge, h.ge, hb, hk.owns hown fun k hk' => by simpa using wown_ne hown hb1 k hk', fun e => absurd e h0⟩, ?_⟩
  · simp only [Option.mem_toList] at hk'
    exact (h.own.lt k hk').1
  · refine Ofs.tr (Ofs.of hkg fun k hk' => ?_) (Ofs.of hk fun k hk' => ⟨[p, v, .bool ap, vv], TW, by rw [List.mem_singleton.1 hk']; exact hb1, .inl rfl⟩)
    simp only [Option.mem_toList] at hk'
    obtain ⟨X, hX⟩ := own_blk h.own hk'
    exact ⟨X, TB, hX, .inr rfl⟩
end

theorem size_bp : sizeOk Tryz.prog 58 1 = true := by kernel_rfl
theorem size_bs : sizeOk Tryz.prog 59 1 = true := by kernel_rfl
theorem size_bo : sizeOk Tryz.prog 4 1 = true := by kernel_rfl
theorem slice_byte (c : Int) : sliceCells Tryz.prog 59 1 [(0, .int .u8 c)] = some (TB, [Value.int .u8 c].toArray) := by kernel_rfl
theorem lies_bp : liesOk Tryz.prog 58 TW 4 0 = true := by decide +kernel
theorem one1 {v : Value} (h : v.oneCell' = true) : ∀ u ∈ [v], u.oneCell' = true := by
  intro u hu
  simp only [List.mem_cons, List.not_mem_nil, or_false] at hu
  subst hu
  exact h

section
variable {w0 w : World} {b : Nat} {vv : Value} {L : List UInt8} {ap : Bool}
theorem copyCheck_ret (h : Wt w0 w b L ap vv) : Ret Tryz.prog 56 [.pointer (some ⟨b, 0, none⟩)] w fun r w' => r = .tuple #[] ∧ (∃ v, Wp w0 w' b (selfP b) v L ap vv) ∧ Ofs w w' := by
  obtain ⟨p, v, h, hp⟩ := h
  refine ret_of 20 Tryz.func56 rfl rfl (by simp) ?_
  refine au ?_
  refine pl_val _ rfl rfl (val_load1 hT rfl rfl rfl (h.bk.cell rfl)) ?_
  rcases hp with rfl | rfl
  · refine pl_val _ rfl rfl (val_nilNil (by decide +kernel) rfl rfl w) ?_
    refine au ?_
    refine pl_val _ rfl rfl (val_toUnsafe (by decide +kernel) (by decide +kernel) rfl rfl h.bk (by simp)) ?_
    refine pl_val _ rfl rfl (val_noEscape rfl rfl rfl rfl Tryz.func68 (by kernel_rfl) (by kernel_rfl) (by kernel_rfl) (by kernel_rfl) w) ?_
    refine pl_val _ rfl rfl (val_fromUnsafe lies_bp (by decide +kernel) rfl rfl h.bk) ?_
    refine au ?_
    refine pl_op rfl rfl (opTo_storeN [selfP b] rfl rfl rfl rfl size_bp h.bk (by simp) (one1 rfl) ?_)
    intro w1 hs1 hk1 hb1
    have hb1' : Blk w1 b [selfP b, v, .bool ap, vv] TW := hb1
    obtain ⟨h1, h2⟩ := h.set hk1 hb1'
    refine au ?_
    exact rn_end Tryz.func56 (.inr (.inl ⟨rfl, rfl⟩)) ⟨rfl, ⟨v, h1⟩, h2⟩
  · refine pl_val _ rfl rfl (val_eqNil (by decide +kernel) rfl rfl w) ?_
    refine au ?_
    refine pl_val _ rfl rfl (val_load1 hT rfl rfl rfl (h.bk.cell rfl)) ?_
    refine au ?_
    refine pl_val _ rfl rfl (val_neSelf (by decide +kernel) rfl rfl rfl w) ?_
    refine au ?_
    exact rn_end Tryz.func56 (.inr (.inl ⟨rfl, rfl⟩)) ⟨rfl, ⟨v, h⟩, Ofs.refl _⟩

theorem writeByte_ret (c : UInt8) (ci : Int) (hc : ci = (c.toNat : Nat)) (h : Wt w0 w b L ap vv) (hl : L.length ≤ 90000000) : Ret Tryz.prog 36 [.pointer (some ⟨b, 0, none⟩), .int .u8 ci] w fun _ w' => Wt w0 w' b (L ++ [c]) ap vv ∧ Ofs w w' := by
  subst hc
  refine ret_of 17 Tryz.func36 rfl rfl (by simp) ?_
  refine au ?_
  refine pl_op rfl rfl (opTo_call (fst := []) (cap := []) rfl rfl rfl rfl (by decide +kernel) ((copyCheck_ret h).mono ?_))
  rintro r w1 ⟨rfl, ⟨v, h1⟩, ho1⟩
  refine au ?_
  refine pl_val _ rfl rfl (val_load1 hT rfl rfl rfl (h1.bk.cell rfl)) ?_
  refine au ?_
  refine pl_op rfl rfl (opTo_sliceN TB [.int .u8 (c.toNat : Nat)] rfl rfl (slice_byte _) ?_)
  intro w2 g hg hs2 hk2 hb2
  have h2 := h1.keep0 hk2
  refine pl_op rfl rfl (opTo_append w0.heap.size TB 1 1 (Lib.byteCells L) [.int .u8 (c.toNat : Nat)] rfl rfl rfl (by decide +kernel) (by decide) h2.own (hb2.range rfl) rfl (one1 rfl) (by decide) (by unfold maxLen; omega) (by omega) h2.kp.size ?_)
  intro g3 cap w3 hown3 hgr3 _ _
  have e3 : Lib.byteCells L ++ [.int .u8 (c.toNat : Nat)] = Lib.byteCells (L ++ [c]) := by rw [Lib.byteCells_append]; rfl
  have e4 : L.length + 1 = (L ++ [c]).length := by simp
  rw [e3] at hown3
  have hown3' : w3.ownsRow w0.heap.size TB 1 (.slice (some ⟨g3, 0, none⟩) (L.length + 1) cap) (L ++ [c]).length (Lib.byteCells (L ++ [c])) := by rw [← e4]; exact hown3
  refine au ?_
  refine pl_op rfl rfl (opTo_storeN [.slice (some ⟨g3, 0, none⟩) (L.length + 1) cap] rfl rfl rfl rfl size_bs (grown_bk h2 hgr3) (by simp) (one1 rfl) ?_)
  intro w4 hs4 hk4 hb4
  obtain ⟨h4, ho4⟩ := h2.app hgr3 hown3' hk4 hb4 (by simp)
  refine au ?_
  exact rn_ret Tryz.func36 (.inl ⟨_, rfl, rfl⟩) ⟨⟨_, _, h4, .inr rfl⟩, (ho1.tr (Ofs.of0 hk2)).tr ho4⟩

theorem writeString_ret (l : List UInt8) (h0 : l ≠ []) (h : Wt w0 w b L ap vv) (hl : L.length + l.length ≤ 90000000) : Ret Tryz.prog 37 [.pointer (some ⟨b, 0, none⟩), .string (str l)] w fun _ w' => Wt w0 w' b (L ++ l) ap vv ∧ Ofs w w' := by
  refine ret_of 19 Tryz.func37 rfl rfl (by simp) ?_
  refine au ?_
  refine pl_op rfl rfl (opTo_call (fst := []) (cap := []) rfl rfl rfl rfl (by decide +kernel) ((copyCheck_ret h).mono ?_))
  rintro r w1 ⟨rfl, ⟨v, h1⟩, ho1⟩
  refine au ?_
  refine pl_val _ rfl rfl (val_load1 hT rfl rfl rfl (h1.bk.cell rfl)) ?_
  refine au ?_
  refine pl_op rfl rfl (opTo_appStr w0.heap.size TB (Lib.byteCells L) l rfl rfl rfl (by decide +kernel) (by decide +kernel) h1.own (by omega) h1.kp.size ?_)
  intro v3 w3 hown3 hgr3
  rw [← Lib.byteCells_append, ← List.length_append] at hown3
  have h10 : v3.oneCell' = true ∧ v3.cells = [v3].toArray := by
    rcases hown3.2 with ⟨rfl, _⟩ | ⟨g, cap, cur, rfl, _⟩
    · exact ⟨rfl, rfl⟩
    · exact ⟨rfl, rfl⟩
  refine au ?_
  refine pl_op rfl rfl (opTo_storeN [v3] rfl rfl rfl h10.2 size_bs (grown_bk h1 hgr3) (by simp) (one1 h10.1) ?_)
  intro w4 hs4 hk4 hb4
  obtain ⟨h4, ho4⟩ := h1.app hgr3 hown3 hk4 hb4 (by simp [h0])
  refine au ?_
  refine pl_val _ rfl rfl (val_len l (by decide +kernel) rfl rfl w4) ?_
  refine au ?_
  exact rn_ret Tryz.func37 (.inr (.inr (.inr (.inr ⟨_, _, _, _, rfl, rfl, rfl, rfl⟩)))) ⟨⟨_, _, h4, .inr rfl⟩, ho1.tr ho4⟩

theorem builderString_ret (h : Wt w0 w b L ap vv) : Ret Tryz.prog 24 [.pointer (some ⟨b, 0, none⟩)] w fun r w' => r = .string (str L) ∧ Keep [] w0 w' := by
  obtain ⟨p, v, h, _⟩ := h
  refine ret_of 14 Tryz.func24 rfl rfl (by simp) ?_
  refine auj ?_
  refine rn_seq ?_
  refine rn_plain ?_
  refine auj ?_
  refine rn_seq ?_
  refine rn_draw (fun w' => w' = w.drew) [10] hMix ?_
  have hS : w.drew = w.drew := rfl
  by_cases hL : L = []
  · have hv := h.nz hL
    subst hv
    subst hL
    refine tk 0 ?_
    refine tk 1 ?_
    refine tk 2 ?_
    refine dr_val 3 (.slice none 0 0) rfl (by decide +kernel) rfl rfl (fun w9 hS9 => val_load1 hT rfl rfl rfl (by rw [hS9]; exact h.bk.drew.cell rfl)) hS ?_
    refine dr_any 4 (.pointer none) rfl (by decide +kernel) rfl rfl (fun w => val_sliceDataNil rfl rfl w) ?_
    refine tk 5 ?_
    refine tk 6 ?_
    refine tk 7 ?_
    refine dr_val 8 (.slice none 0 0) rfl (by decide +kernel) rfl rfl (fun w9 hS9 => val_load1 hT rfl rfl rfl (by rw [hS9]; exact h.bk.drew.cell rfl)) hS ?_
    refine tk 9 ?_
    refine dr_any 10 (.string (str [])) rfl (by decide +kernel) rfl rfl (fun w => val_uStr0 rfl rfl rfl w) ?_
    refine tk 11 ?_
    refine dr_done (by decide +kernel) ?_
    refine au ?_
    exact rn_ret Tryz.func24 (.inl ⟨_, rfl, rfl⟩) ⟨rfl, h.kp.drew⟩
  · have hl0 : L.length ≠ 0 := by simpa using hL
    obtain ⟨g, cap, rfl, hc, hge⟩ : ∃ g cap, v = .slice (some ⟨g, 0, none⟩) L.length cap ∧ cap ≠ 0 ∧ w0.heap.size ≤ g := by
      rcases h.own.2 with ⟨_, hz⟩ | ⟨g, cap, cur, hv, hb, _, hnc, _⟩
      · exact absurd hz hl0
      · exact ⟨g, cap, hv, by omega, hb⟩
    refine tk 0 ?_
    refine tk 1 ?_
    refine tk 2 ?_
    refine dr_val 3 (.slice (some ⟨g, 0, none⟩) L.length cap) rfl (by decide +kernel) rfl rfl (fun w9 hS9 => val_load1 hT rfl rfl rfl (by rw [hS9]; exact h.bk.drew.cell rfl)) hS ?_
    refine dr_any 4 (.pointer (some ⟨g, 0, none⟩)) rfl (by decide +kernel) rfl rfl (fun w => val_sliceData rfl rfl hc w) ?_
    refine tk 5 ?_
    refine tk 6 ?_
    refine tk 7 ?_
    refine dr_val 8 (.slice (some ⟨g, 0, none⟩) L.length cap) rfl (by decide +kernel) rfl rfl (fun w9 hS9 => val_load1 hT rfl rfl rfl (by rw [hS9]; exact h.bk.drew.cell rfl)) hS ?_
    refine tk 9 ?_
    refine dr_op 10 rfl (by decide +kernel) rfl rfl (opTo_uStr (e := TB) (base := w0.heap.size) L rfl rfl rfl (by decide +kernel) hL h.own ?_)
    refine ⟨fun h => absurd (by simp) h, ?_⟩
    refine tk 11 ?_
    refine dr_done (by decide +kernel) ?_
    refine au ?_
    exact rn_ret Tryz.func24 (.inl ⟨_, rfl, rfl⟩) ⟨rfl, keep_freeze h.kp.drew hge⟩
end
end E
end Go.Proofs.YtbojicehfbeepadGreatDoor
