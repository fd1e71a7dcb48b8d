/- Several texts in one: IdS, LiftI, IdO, StrB, ThrO, IrA, IrB. -/
import Derived.Test.YtmdjgejahnmfmafJ05
import Derived.Test.YtmdjgejahnmfmafJ03
import Derived.Test.YtmdjgejahnmfmafJ02
import Derived.Test.YtmdjgejahnmfmafJ04
/- The laws' calm: statements without their commits. -/
namespace Go.Proofs.Ytmdjgejahnmfmaf
set_option maxRecDepth 20000
set_option maxHeartbeats 4000000
namespace E
open Go.Proofs

def kzx : List Value := [.int .i64 0, .int .i64 0, .int .i64 0, .slice none 0 0]
theorem kzero_st : ((Try.prog.info? 44).bind (·.zero)).map (·.cells) = some (scells 0 0 kzx kzx (.slice none 0 0) (.slice none 0 0)).toArray := by kernel_rfl
theorem ksize_st : sizeOk Try.prog 44 12 = true := by kernel_rfl
theorem ksize_sts : sizeOk Try.prog 23 1 = true := by kernel_rfl
theorem kslice_stmt (a b c d e f g h i j k l : Value) : sliceCells Try.prog 23 1 [(0, .agg #[a, b, c, d, e, f, g, h, i, j, k, l])] = some (44, #[a, b, c, d, e, f, g, h, i, j, k, l]) := by kernel_rfl
theorem Own.same {w : World} {B e size n : Nat} {v : Value} {xs ys : List Value} (h : Own w B e size v n xs) (h' : Own w B e size v n ys) : xs = ys := by
  rcases h.2 with ⟨_, h1⟩ | ⟨g1, c1, cur1, h1, _, hb1, _, _, ht1⟩
  · have l1 := h.1
    have l2 := h'.1
    rw [h1, Nat.zero_mul] at l1 l2
    have e1 : xs = [] := List.eq_nil_of_length_eq_zero l1
    have e2 : ys = [] := List.eq_nil_of_length_eq_zero l2
    rw [e1, e2]
  · rcases h'.2 with ⟨h2, _⟩ | ⟨g2, c2, cur2, h2, _, hb2, _, _, ht2⟩
    · rw [h2] at h1; cases h1
    · rw [h1] at h2
      injection h2 with h2 _ _
      injection h2 with h2
      injection h2 with h2 _ _
      subst h2
      unfold Blk at hb1 hb2
      rw [hb1] at hb2
      injection hb2 with hb2
      injection hb2 with hb2
      have hcc : cur1 = cur2 := by
        have := congrArg Array.toList hb2
        simpa using this
      rw [← ht1, ← ht2, hcc]
theorem calmL_app : ∀ (a b : List ST), calmL (a ++ b) = calmL a ++ calmL b
  | [], b => rfl
  | t :: r, b => by
    simp only [List.cons_append, calmL]
    split
    · exact calmL_app r b
    · rw [calmL_app r b]; rfl

/-- A row of statements that is being made, over a world w0: what stands in them lies in blocks of F0, or in new ones. -/
def CalR (F0 : Nat → Prop) (w0 w : World) (v : Value) (l : List ST) : Prop :=
  ∃ (ccs : List (List Value)) (F : Nat → Prop), Own w w0.heap.size 44 12 v ccs.length ccs.flatten ∧ ccs.length = l.length ∧ (∀ i (hi : i < l.length), StmtV F w (ccs.getD i []) (l[i]'hi)) ∧ ∀ c, F c → (F0 c ∨ w0.heap.size ≤ c) ∧ c < w.heap.size ∧ v.ownBlock ≠ some c
section
variable {F0 : Nat → Prop} {w0 w w' : World} {v : Value} {l : List ST}
theorem CalR.nil : CalR F0 w0 w (.slice none 0 0) [] := ⟨[], fun _ => False, Own.nil _ _ _ _, rfl, fun i hi => by simp at hi, fun c h => h.elim⟩
theorem CalR.form (h : CalR F0 w0 w v l) : ∃ a cap, v = .slice a l.length cap := by
  obtain ⟨ccs, F, ho, hl, _⟩ := h
  rw [← hl]
  exact ho.form
theorem CalR.keep0 (h : CalR F0 w0 w v l) (hk : Keep [] w w') : CalR F0 w0 w' v l := by
  obtain ⟨ccs, F, ho, hl, hc, hF⟩ := h
  refine ⟨ccs, F, ho.keep hk (fun c _ => by simp), hl, fun i hi => (hc i hi).keep hk fun c hFc => ⟨(hF c hFc).2.1, by simp⟩, fun c hFc => ?_⟩
  have := hF c hFc
  exact ⟨this.1, Nat.lt_of_lt_of_le this.2.1 hk.size, this.2.2⟩
/-- One more, behind an append. -/
theorem CalR.app {cs : List Value} {t : ST} {F' : Nat → Prop} {g cap : Nat} (h : CalR F0 w0 w v l) (ht : StmtV F' w cs t) (hF' : ∀ c, F' c → (F0 c ∨ w0.heap.size ≤ c) ∧ c < w.heap.size ∧ v.ownBlock ≠ some c)
    (hn : ∀ xs, Own w w0.heap.size 44 12 v l.length xs → Own w' w0.heap.size 44 12 (.slice (some ⟨g, 0, none⟩) (l.length + 1) cap) (l.length + 1) (xs ++ cs))
    (hor : (v.ownBlock = some g ∧ l.length + 1 ≤ capOf v ∧ Keep [g] w w') ∨ (g = w.heap.size ∧ Keep [] w w' ∧ w'.heap.size = w.heap.size + 1)) : CalR F0 w0 w' (.slice (some ⟨g, 0, none⟩) (l.length + 1) cap) (l ++ [t]) := by
  obtain ⟨ccs, F, ho, hl, hc, hF⟩ := h
  have hcs := ht.length
  have hG : ∀ c, F c ∨ F' c → (F0 c ∨ w0.heap.size ≤ c) ∧ c < w.heap.size ∧ c ≠ g := by
    intro c hc'
    have h1 : (F0 c ∨ w0.heap.size ≤ c) ∧ c < w.heap.size ∧ v.ownBlock ≠ some c := hc'.elim (hF c) (hF' c)
    refine ⟨h1.1, h1.2.1, fun e => ?_⟩
    rcases hor with ⟨h2, _⟩ | ⟨h2, _⟩
    · rw [e] at h1; exact h1.2.2 h2
    · omega
  have hst : ∀ fp, (fp = [g] ∨ fp = []) → Stays (fun c => F c ∨ F' c) w fp := by
    intro fp hfp c hc'
    refine ⟨(hG c hc').2.1, ?_⟩
    rcases hfp with rfl | rfl
    · simp; exact (hG c hc').2.2
    · simp
  have hkk : ∃ fp, (fp = [g] ∨ fp = []) ∧ Keep fp w w' := by
    rcases hor with ⟨_, _, h2⟩ | ⟨_, h2, _⟩
    · exact ⟨_, .inl rfl, h2⟩
    · exact ⟨_, .inr rfl, h2⟩
  obtain ⟨fp, hfp, hk⟩ := hkk
  refine ⟨ccs ++ [cs], fun c => F c ∨ F' c, ?_, by simp [hl], ?_, ?_⟩
  · have := hn _ (hl ▸ ho)
    have e1 : (ccs ++ [cs]).length = l.length + 1 := by simp [hl]
    have e2 : (ccs ++ [cs]).flatten = ccs.flatten ++ cs := by simp
    rw [e1, e2]
    exact this
  · intro i hi
    simp only [List.length_append, List.length_cons, List.length_nil] at hi
    by_cases hlt : i < l.length
    · have e1 : (ccs ++ [cs]).getD i [] = ccs.getD i [] := by
        rw [List.getD_eq_getElem?_getD, List.getD_eq_getElem?_getD, List.getElem?_append_left (by omega)]
      have e2 : (l ++ [t])[i]'(by simp; omega) = l[i] := List.getElem_append_left hlt
      rw [e1, e2]
      exact ((hc i hlt).mono fun c h => .inl h).keep hk (hst fp hfp)
    · obtain rfl : i = l.length := by omega
      have e1 : (ccs ++ [cs]).getD l.length [] = cs := by
        rw [List.getD_eq_getElem?_getD, ← hl, List.getElem?_append_right (Nat.le_refl _)]
        simp
      have e2 : (l ++ [t])[l.length]'(by simp) = t := by simp
      rw [e1, e2]
      exact (ht.mono fun c h => .inr h).keep hk (hst fp hfp)
  · intro c hc'
    have := hG c hc'
    refine ⟨this.1, Nat.lt_of_lt_of_le this.2.1 hk.size, ?_⟩
    show some g ≠ some c
    intro e
    injection e with e
    exact this.2.2 e.symm
theorem CalR.stmts (h : CalR F0 w0 w v l) : ∃ F : Nat → Prop, StmtsV F w v l ∧ ∀ c, F c → (F0 c ∨ w0.heap.size ≤ c) ∧ c < w.heap.size := by
  obtain ⟨ccs, F, ho, hl, hc, hF⟩ := h
  refine ⟨_, stmts_of_own ho hl hc, ?_⟩
  rintro c (h | h)
  · exact ⟨.inr (ho.lt c h).1, (ho.lt c h).2⟩
  · exact ⟨(hF c h).1, (hF c h).2.1⟩
end

theorem calm_ret : ∀ (s : Nat) (l : List ST), szSs l < s → szSs l ≤ 100000 → ∀ {F : Nat → Prop} {w : World} {v : Value}, StmtsV F w v l → In F w →
    Ret Try.prog 11 [v] w fun r w' => (∃ F' : Nat → Prop, StmtsV F' w' r (calmL l) ∧ ∀ c, F' c → (F c ∨ w.heap.size ≤ c) ∧ c < w'.heap.size) ∧ Keep [] w w' := by
  intro s
  induction s with
  | zero => intro l h; omega
  | succ s ihs =>
    intro l hs hsz F w v h hF
    have hh := h
    obtain ⟨a, cap, rfl⟩ := h.form
    have hll := szSs_len l
    refine ret_of 35 Try.func11 rfl rfl (by simp) ?_
    refine au ?_
    refine rn_ind (fun t σ w' => ∃ (i : Nat) (v2 : Value), i ≤ l.length ∧ t = l.length - i ∧ σ = [(0, .slice a l.length cap), (3, v2), (4, .int .i64 (i : Nat))] ∧ Keep [] w w' ∧ CalR F w w' v2 (calmL (l.take i))) l.length _ ?_ ⟨0, .slice none 0 0, Nat.zero_le _, rfl, rfl, Keep.refl _ _, CalR.nil⟩ ?_
    · exact ⟨rfl, rfl, rfl, trivial⟩
    rintro t σ w1 ih ⟨i, v2, hi, rfl, rfl, hk1, hR1⟩
    refine au ?_
    by_cases hlt : i < l.length
    · refine ye ?_
      refine au ?_
      obtain ⟨op, vv, e, f, lb, lo, ht⟩ : ∃ op vv e f lb lo, l[i]? = some (.mk op vv e f lb lo) := by
        rw [List.getElem?_eq_getElem hlt]
        cases l[i] with
        | mk op vv e f lb lo => exact ⟨op, vv, e, f, lb, lo, rfl⟩
      have htk : l.take (i + 1) = l.take i ++ [.mk op vv e f lb lo] := by rw [List.take_add_one, ht]; rfl
      obtain ⟨b, q, cap', ce, cf, bv, ov, hv, hat⟩ := (hh.keep hk1 hF.stays).stmtAt ht
      cases hv
      refine pl_val _ rfl rfl (val_index i hT rfl rfl rfl rfl rfl hlt w1) ?_
      refine au ?_
      refine pl_val _ rfl rfl (val_load1 hT rfl rfl rfl (hat.cop)) ?_
      by_cases h7 : op = 7
      · refine nay ?_
        refine au ?_
        refine pl_num (((i + 1 : Nat) : Int)) rfl rfl rfl rfl rfl (by simp only [ariP]; omega) ?_
        refine au ?_
        refine rn_sub ?_ (ih (l.length - (i + 1)) [(0, .slice (some ⟨b, q, none⟩) l.length cap), (3, v2), (4, .int .i64 ((i + 1 : Nat) : Int))] w1 (by omega) ⟨i + 1, v2, by omega, rfl, rfl, hk1, ?_⟩)
        · exact ⟨rfl, rfl, rfl, trivial⟩
        · rw [htk, calmL_app]
          have e0 : calmL [.mk op vv e f lb lo] = [] := by simp [calmL, opT, h7]
          rw [e0, List.append_nil]
          exact hR1
      · refine ye ?_
        refine au ?_
        have hzt : szS (.mk op vv e f lb lo) ≤ szSs l := szSs_at ht
        have hzz : szSs lb + szSs lo < szS (.mk op vv e f lb lo) := by simp only [szS]; omega
        obtain ⟨e1, e2, e3, e4⟩ := e
        obtain ⟨f1, f2, f3, f4⟩ := f
        obtain ⟨lve, hce, hle⟩ := hat.he.inv
        obtain ⟨lvf, hcf, hlf⟩ := hat.hf.inv
        obtain ⟨ea, ec, rfl⟩ := hle.form
        obtain ⟨fa, fc, rfl⟩ := hlf.form
        subst hce
        subst hcf
        obtain ⟨ba, bc, rfl⟩ := hat.hb.form
        obtain ⟨oa, oc, rfl⟩ := hat.ho.form
        refine pl_val _ rfl rfl (val_index i hT rfl rfl rfl rfl rfl hlt w1) ?_
        refine pl_val _ rfl rfl (val_load _ hT rfl rfl rfl hat.whole) ?_
        refine pl_op rfl rfl (opTo_allocN _ rfl kzero_st ?_)
        intro w2 x2 hx2 hs2 hk2 hb2
        refine pl_op rfl rfl (opTo_storeN _ rfl rfl rfl rfl ksize_st hb2 (by simp [scells, kzx]) (by
          intro u hu
          simp only [scells, List.cons_append, List.nil_append, List.mem_cons, List.not_mem_nil, or_false] at hu
          rcases hu with rfl | rfl | rfl | rfl | rfl | rfl | rfl | rfl | rfl | rfl | rfl | rfl <;> rfl) ?_)
        intro w3 hs3 hk3 hb3
        rw [splice_whole (by rfl)] at hb3
        have hk13 : Keep [] w1 w3 := hk2.trB hk3 (by omega)
        have hk03 := hk1.tr hk13
        refine au ?_
        refine rn_draw (fun w' => Keep [] w3 w') [7, 9] hMix ?_
        have hS : Keep [] w3 w3.drew := (Keep.refl _ _).drew
        generalize w3.drew = w4 at *
        refine tk 0 ?_
        refine dr_val 1 (.slice ba lb.length bc) rfl (by decide +kernel) rfl rfl (fun w9 hS9 => val_load1 hT rfl rfl rfl ((hS9.blk hb3 (by simp)).cell rfl)) hS ?_
        refine tk 3 ?_
        refine dr_val 4 (.slice oa lo.length oc) rfl (by decide +kernel) rfl rfl (fun w9 hS9 => val_load1 hT rfl rfl rfl ((hS9.blk hb3 (by simp)).cell rfl)) hS ?_
        have hF1 : In F w1 := hF.keep hk1
        refine dr_op 2 rfl (by decide +kernel) rfl rfl (opTo_call (fst := []) (cap := []) rfl rfl rfl rfl (by decide +kernel) ((ihs lb (by omega) (by omega) (hat.hb.keep (hk13.tr hS) hF1.stays) (hF1.keep (hk13.tr hS))).mono ?_))
        rintro r5 w5 ⟨⟨F5, hr5, hF5⟩, hk5⟩
        obtain ⟨ra, rc, rfl⟩ := hr5.form
        have hS5 := hS.tr hk5
        refine ⟨fun _ => hS5, ?_⟩
        refine tk 6 ?_
        refine dr_op 5 rfl (by decide +kernel) rfl rfl (opTo_call (fst := []) (cap := []) rfl rfl rfl rfl (by decide +kernel) ((ihs lo (by omega) (by omega) (hat.ho.keep (hk13.tr hS5) hF1.stays) (hF1.keep (hk13.tr hS5))).mono ?_))
        rintro r6 w6 ⟨⟨F6, hr6, hF6⟩, hk6⟩
        obtain ⟨sa, sc, rfl⟩ := hr6.form
        have hS6 := hS5.tr hk6
        refine ⟨fun _ => hS6, ?_⟩
        have hb6 := hS6.blk hb3 (by simp)
        refine dr_op 7 rfl (by decide +kernel) rfl rfl (opTo_storeN [.slice ra (calmL lb).length rc] rfl rfl rfl rfl ksize_sts hb6 (by simp [scells]) (by intro u hu; rw [List.mem_singleton.1 hu]; rfl) ?_)
        intro w7 hs7 hk7 hb7
        refine ⟨fun h => absurd (by simp) h, ?_⟩
        refine tk 8 ?_
        refine dr_op 9 rfl (by decide +kernel) rfl rfl (opTo_storeN [.slice sa (calmL lo).length sc] rfl rfl rfl rfl ksize_sts hb7 (by simp [scells, splice]) (by intro u hu; rw [List.mem_singleton.1 hu]; rfl) ?_)
        intro w8 hs8 hk8 hb8
        refine ⟨fun h => absurd (by simp) h, ?_⟩
        refine dr_done (by decide +kernel) ?_
        have hb8' : Blk w8 x2 [.int .i64 op, .int .i64 vv, .int .i64 e1, .int .i64 e2, .int .i64 e3, .slice ea e4.length ec, .int .i64 f1, .int .i64 f2, .int .i64 f3, .slice fa f4.length fc, .slice ra (calmL lb).length rc, .slice sa (calmL lo).length sc] 44 := hb8
        have hk16 : Keep [] w1 w6 := hk13.tr hS6
        have hk68 : Keep [x2] w6 w8 := hk7.tr hk8
        have hk18 : Keep [] w1 w8 := hk16.trB hk68 (by omega)
        have hx2s : w1.heap.size ≤ x2 := by omega
        have hst5 : Stays F5 w6 [x2] := fun c hc => ⟨by have := (hF5 c hc).2; have := hk6.size; omega, by
          have h1 := (hF5 c hc).1
          intro hm
          have hm := List.mem_singleton.1 hm
          rcases h1 with h1 | h1
          · have := hF1 c h1; omega
          · have := hS.size; omega⟩
        have hst6 : Stays F6 w6 [x2] := fun c hc => ⟨(hF6 c hc).2, by
          have h1 := (hF6 c hc).1
          intro hm
          have hm := List.mem_singleton.1 hm
          rcases h1 with h1 | h1
          · have := hF1 c h1; omega
          · have := hS5.size; omega⟩
        have hr58 := (hr5.keep hk6 fun c hc => ⟨(hF5 c hc).2, by simp⟩).keep hk68 hst5
        have hr68 := hr6.keep hk68 hst6
        have hR8 := hR1.keep0 hk18
        obtain ⟨v2a, v2c, hv2⟩ := hR8.form
        refine au ?_
        refine pl_val _ rfl rfl (val_load [.int .i64 op, .int .i64 vv, .int .i64 e1, .int .i64 e2, .int .i64 e3, .slice ea e4.length ec, .int .i64 f1, .int .i64 f2, .int .i64 f3, .slice fa f4.length fc, .slice ra (calmL lb).length rc, .slice sa (calmL lo).length sc] hT rfl rfl rfl (hb8'.range (by rfl))) ?_
        refine pl_op rfl rfl (opTo_sliceN _ _ rfl rfl (kslice_stmt _ _ _ _ _ _ _ _ _ _ _ _) ?_)
        intro w9 g9 hg9 hs9 hk9 hb9
        have hk89 := hk18.tr hk9
        have hR9 := hR8.keep0 hk9
        obtain ⟨ccs, F9, hown, hlen, hcc, hF9⟩ := hR9
        have hlt9 : (calmL (l.take i)).length ≤ 100000 := by
          have := calmL_len (l.take i)
          rw [List.length_take] at this
          omega
        refine pl_op rfl rfl (opTo_app w.heap.size 44 12 160 ccs.flatten [.int .i64 op, .int .i64 vv, .int .i64 e1, .int .i64 e2, .int .i64 e3, .slice ea e4.length ec, .int .i64 f1, .int .i64 f2, .int .i64 f3, .slice fa f4.length fc, .slice ra (calmL lb).length rc, .slice sa (calmL lo).length sc] rfl rfl rfl (by decide +kernel) hown (hb9.range (by rfl)) rfl (by
          intro u hu
          simp only [List.mem_cons, List.not_mem_nil, or_false] at hu
          rcases hu with rfl | rfl | rfl | rfl | rfl | rfl | rfl | rfl | rfl | rfl | rfl | rfl <;> rfl) (by decide) (by unfold maxLen; omega) (by omega) ((hk1.tr hk89).size) ?_)
        intro g capg w10 hown10 hcase
        rw [hlen] at hown hown10 hcase ⊢
        have hst9 : ∀ c, F c ∨ F5 c ∨ F6 c → (F c ∨ w.heap.size ≤ c) ∧ c < w9.heap.size ∧ v2.ownBlock ≠ some c := fun c hc => by
          have h9 := hk9.size
          have h8 := hk68.size
          have h6 := hk6.size
          have hw1 := hk1.size
          have hw4 := (hk13.tr hS).size
          have hw5 := (hk13.tr hS5).size
          have hv2o : ∀ k, v2.ownBlock = some k → w.heap.size ≤ k ∧ k < w1.heap.size := fun k hk => by
            obtain ⟨ccs1, _, ho1, _⟩ := hR1
            exact ho1.lt k hk
          rcases hc with hc | hc | hc
          · have := hF1 c hc
            have hc0 := hF c hc
            exact ⟨.inl hc, by have := hk18.size; omega, fun hm => by have := (hv2o c hm).1; omega⟩
          · have h1 := hF5 c hc
            refine ⟨?_, by omega, fun hm => ?_⟩
            · rcases h1.1 with h2 | h2
              · exact .inl h2
              · exact .inr (by omega)
            · have h3 := hv2o c hm
              rcases h1.1 with h2 | h2
              · have := hF c h2; omega
              · omega
          · have h1 := hF6 c hc
            refine ⟨?_, by omega, fun hm => ?_⟩
            · rcases h1.1 with h2 | h2
              · exact .inl h2
              · exact .inr (by omega)
            · have h3 := hv2o c hm
              rcases h1.1 with h2 | h2
              · have := hF c h2; omega
              · omega
        have hstay : ∀ {F' : Nat → Prop}, (∀ c, F' c → F c ∨ F5 c ∨ F6 c) → Stays F' w9 [] := fun {F'} hF' c hc => ⟨(hst9 c (hF' c hc)).2.1, by simp⟩
        have hnew : StmtV (fun c => F c ∨ F5 c ∨ F6 c) w9 (scells op vv [.int .i64 e1, .int .i64 e2, .int .i64 e3, .slice ea e4.length ec] [.int .i64 f1, .int .i64 f2, .int .i64 f3, .slice fa f4.length fc] (.slice ra (calmL lb).length rc) (.slice sa (calmL lo).length sc)) (.mk op vv (.mk e1 e2 e3 e4) (.mk f1 f2 f3 f4) (calmL lb) (calmL lo)) := by
          have hs8F : ∀ c, F5 c → c < w8.heap.size := fun c hc => by have := (hF5 c hc).2; have := hk6.size; have := hk68.size; omega
          have hs8G : ∀ c, F6 c → c < w8.heap.size := fun c hc => by have := (hF6 c hc).2; have := hk68.size; omega
          exact StmtV.of ((hat.he.keep hk89 hF1.stays).mono fun c h => .inl h) ((hat.hf.keep hk89 hF1.stays).mono fun c h => .inl h) ((hr58.keep hk9 fun c hc => ⟨hs8F c hc, by simp⟩).mono fun c h => .inr (.inl h)) ((hr68.keep hk9 fun c hc => ⟨hs8G c hc, by simp⟩).mono fun c h => .inr (.inr h))
        have hR10 := CalR.app (w' := w10) (g := g) (cap := capg) (hR8.keep0 hk9) hnew hst9 (fun xs hxs => by
          have := Own.same hown hxs
          rw [← this]
          exact hown10) hcase
        have hkx : Keep [] w w10 := by
          rcases hcase with ⟨h3, _, h4⟩ | ⟨_, h4, _⟩
          · exact (hk1.tr hk89).trans h4 fun k hk => .inr (by
              rw [List.mem_singleton.1 hk]
              exact (hown.lt g h3).1)
          · exact (hk1.tr hk89).tr h4
        refine au ?_
        refine pl_num (((i + 1 : Nat) : Int)) rfl rfl rfl rfl rfl (by simp only [ariP]; omega) ?_
        refine au ?_
        refine rn_sub ?_ (ih (l.length - (i + 1)) [(0, .slice (some ⟨b, q, none⟩) l.length cap), (3, .slice (some ⟨g, 0, none⟩) ((calmL (l.take i)).length + 1) capg), (4, .int .i64 ((i + 1 : Nat) : Int))] w10 (by omega) ⟨i + 1, _, by omega, rfl, rfl, hkx, ?_⟩)
        · exact ⟨rfl, rfl, rfl, trivial⟩
        · rw [htk, calmL_app]
          have e0 : calmL [.mk op vv (.mk e1 e2 e3 e4) (.mk f1 f2 f3 f4) lb lo] = [.mk op vv (.mk e1 e2 e3 e4) (.mk f1 f2 f3 f4) (calmL lb) (calmL lo)] := by simp [calmL, opT, h7, calmS]
          rw [e0]
          exact hR10
    · have hil : i = l.length := by omega
      subst hil
      refine nay ?_
      refine au ?_
      rw [List.take_length] at hR1
      obtain ⟨F', h1, h2⟩ := hR1.stmts
      obtain ⟨va, vc, rfl⟩ := h1.form
      exact rn_ret Try.func11 (.inl ⟨_, rfl, rfl⟩) ⟨⟨F', h1, h2⟩, hk1⟩
end E
end Go.Proofs.Ytmdjgejahnmfmaf

/- Lists of numbers, as an argument of a law is read. -/
namespace Go.Proofs.Ytmdjgejahnmfmaf
set_option maxRecDepth 20000
set_option maxHeartbeats 4000000
namespace E
open Go.Proofs

/-- A number of 64 bits. -/
abbrev Lg64 : Type := Int
theorem int_lt {n : Int} (h : (Lit.int .i64 n).wf = true) : n < 9223372036854775808 := by
  simp only [Lit.wf, Bool.and_eq_true, decide_eq_true_eq] at h
  have h2 : n ≤ 9223372036854775807 := h.2
  omega
def ArgI (_ : Nat) (w : World) (v : Value) (l : List Int) : Prop := InpV w v l
theorem flat_lgs (l : List Int) : l.flatMap (fun n => [Value.int .i64 n]) = lgs l := by
  induction l with
  | nil => rfl
  | cons x r ih => rw [List.flatMap_cons, ih]; rfl
theorem argI_of {H : Type} {enc : TypeId × Value → H} {w : World} {v : Value} {d : DataW H} {ps : List MemPlace} (h : DataW.Trod enc Try.prog w 0 (fun _ => true) true 26 v d ps) (hv : v.cells = #[v]) : ∃ l, ArgI w.heap.size w v l := by
  obtain ⟨fuel, hf⟩ := h
  obtain ⟨a, cap, L, hcs, hr, _⟩ := open_list (fun n : Int => [Value.int .i64 n]) (fun _ => True) 1 (by decide) Try.underlying26 (by decide +kernel) (fun s _ => rfl) (fun n cs x h => by
    obtain ⟨z, hz, _⟩ := trod_int1 Try.underlying2 h
    exact ⟨z, hz, trivial⟩) hf
  rw [hv] at hcs
  simp at hcs
  refine ⟨L, a, cap, hcs, fun h0 => ?_⟩
  obtain ⟨b, q, h1, h2, h3⟩ := hr (by intro e; rw [e] at h0; simp at h0)
  rw [flat_lgs] at h3
  exact ⟨b, q, h1, h2, h3⟩
/-- The same, and it has as much room as it has numbers; so many of them are no more than memory. -/
def ArgC (_ : Nat) (w : World) (v : Value) (l : List Int) : Prop := InpV w v l ∧ ∀ a n cap, v = .slice a n cap → n ≤ cap
theorem argC_of {H : Type} {enc : TypeId × Value → H} {w : World} {v : Value} {d : DataW H} {ps : List MemPlace} (h : DataW.Trod enc Try.prog w 0 (fun _ => true) true 26 v d ps) (hv : v.cells = #[v]) : ∃ l, ArgC w.heap.size w v l := by
  obtain ⟨l, hl⟩ := argI_of h hv
  refine ⟨l, hl, fun a n cap he => ?_⟩
  subst he
  obtain ⟨fuel, hf⟩ := h
  rcases Go.Deep.open_slice Try.underlying26 hf with ⟨hcs, _⟩ | ⟨a', len, cap', m, n', D, Pl, hcs, _, hl', _⟩
  · rw [hv] at hcs
    simp at hcs
    omega
  · rw [hv] at hcs
    simp at hcs
    omega
end E
end Go.Proofs.Ytmdjgejahnmfmaf

/- The walk of IdealCommits. -/
namespace Go.Proofs.Ytmdjgejahnmfmaf
set_option maxRecDepth 20000
set_option maxHeartbeats 4000000
namespace E
open Go.Proofs

mutual
theorem sz_calmS : ∀ (t : ST), szS (calmS t) ≤ szS t
  | .mk op v e f b o => by
    have h1 := sz_calmL b
    have h2 := sz_calmL o
    simp only [calmS, szS]
    omega
theorem sz_calmL : ∀ (l : List ST), szSs (calmL l) ≤ szSs l
  | [] => Nat.le_refl _
  | t :: r => by
    have h1 := sz_calmS t
    have h2 := sz_calmL r
    simp only [calmL]
    split
    · simp only [szSs]; omega
    · simp only [szSs]; omega
end
/-- A commit says nothing. -/
theorem commitsI (vs : List VarT) (body : List ST) (inp : List Int) (f : Nat) (h : (resX (saysX vs body inp f)).1 ≠ 13) :
    (resX (saysX vs (calmL body) inp f)).1 = (resX (saysX vs body inp f)).1 ∧ (resX (saysX vs (calmL body) inp f)).2.1 = (resX (saysX vs body inp f)).2.1 ∧ (resX (saysX vs (calmL body) inp f)).2.2.1 = (resX (saysX vs body inp f)).2.2.1 ∧ (resX (saysX vs (calmL body) inp f)).2.2.2 ≤ (resX (saysX vs body inp f)).2.2.2 := by
  have hs : ∀ {X Y : Ex Es}, LessX Less X Y → (resX X).1 ≠ 13 → (resX Y).1 = (resX X).1 ∧ (resX Y).2.1 = (resX X).2.1 ∧ (resX Y).2.2.1 = (resX X).2.2.1 ∧ (resX Y).2.2.2 ≤ (resX X).2.2.2 := fun {X Y} hXY hX => by
    cases X with
    | ok a =>
      obtain ⟨c, rfl, h1, h2, h3, h4⟩ := hXY
      exact ⟨rfl, h3, h4, h1⟩
    | error e =>
      rcases hXY with h0 | ⟨e', rfl, h0, h1, h2, h3, h4⟩
      · exact absurd h0 hX
      · exact ⟨h0, h3, h4, h1⟩
  exact hs (less_P vs inp f body (Less.refl (es0 (sumV vs).toNat))) h
theorem built_pr2 (a b : Option Addr) (n c m d : Nat) : Try.prog.built 25 [(0, .slice a n c), (1, .slice b m d)] = some [Value.slice a n c, .slice b m d].toArray := by kernel_rfl
theorem idealCommits_ret (hI : IdC) {w : World} {x iv : Value} {vs : List VarT} {body : List ST} {inp : List Int} (h : ProgV (fun b => b < w.heap.size) w x vs body) (hi : LsC w iv inp) (fuel : Int) :
    Ret Try.prog 5 [x, iv, .int .i64 fuel] w fun r w' => r = .bool true ∧ Keep [] w w' := by
  have hF : In (fun b => b < w.heap.size) w := fun c hc => hc
  have hh := h
  obtain ⟨vv, bv, rfl, hv, hb⟩ := h
  obtain ⟨av, capv, rfl⟩ := hv.form
  obtain ⟨ab, capb, rfl⟩ := hb.form
  have hic := hi
  have hi0 : LsV w iv inp := hi.1
  obtain ⟨⟨ia, icap, rfl, _⟩, _⟩ := hi
  refine ret_of 70 Try.func5 rfl rfl (by simp) ?_
  refine au ?_
  refine pl_op rfl rfl (opTo_boxN [.slice av vs.length capv, .slice ab body.length capb] rfl rfl rfl ?_)
  intro w1 p hp0 hs1 hk1 hp1
  refine au ?_
  refine pl_op rfl rfl (opTo_call (fst := []) (cap := []) rfl rfl rfl rfl (by decide +kernel) ((idealBegun_ret hI w1).mono ?_))
  rintro r w2 ⟨rfl, hk2⟩
  have hk02 := hk1.tr hk2
  have hp2 := hk2.blk hp1 (by simp)
  refine au ?_
  refine pl_val _ rfl rfl (val_load [.slice av vs.length capv, .slice ab body.length capb] hT rfl rfl rfl (hp2.range (by rfl))) ?_
  refine pl_op rfl rfl (opTo_call (fst := []) (cap := []) rfl rfl rfl rfl (by decide +kernel) ((great_ret (hh.keep hk02 hF.stays) (hF.keep hk02)).mono ?_))
  rintro r w3 ⟨⟨g, rfl, hg⟩, hk3⟩
  have hk03 := hk02.tr hk3
  have hp3 := hk3.blk hp2 (by simp)
  cases g with
  | true =>
    refine au ?_
    exact rn_ret Try.func5 (.inl ⟨_, rfl, rfl⟩) ⟨rfl, hk03⟩
  | false =>
    obtain ⟨h30, hnm, hsz⟩ := hg rfl
    have hnm' : ∀ y ∈ vs, y.1.size ≤ 100000 := fun y hy => by have := hnm y hy; omega
    refine au ?_
    by_cases hil : inp.length > 40
    · refine ye ?_
      refine au ?_
      exact rn_ret Try.func5 (.inl ⟨_, rfl, rfl⟩) ⟨rfl, hk03⟩
    refine nay ?_
    refine au ?_
    by_cases hf0 : fuel < 0
    · refine ye ?_
      refine au ?_
      exact rn_ret Try.func5 (.inl ⟨_, rfl, rfl⟩) ⟨rfl, hk03⟩
    refine nay ?_
    refine au ?_
    by_cases hf3 : fuel > 3000
    · refine ye ?_
      refine au ?_
      exact rn_ret Try.func5 (.inl ⟨_, rfl, rfl⟩) ⟨rfl, hk03⟩
    refine nay ?_
    refine au ?_
    obtain ⟨f, rfl⟩ : ∃ f : Nat, fuel = (f : Nat) := ⟨fuel.toNat, by omega⟩
    obtain ⟨T, hTe⟩ : ∃ T, T = runI vs body inp ((f : Nat) : Int) := ⟨_, rfl⟩
    obtain ⟨U, hUe⟩ : ∃ U, U = runI vs (calmL body) inp ((f : Nat) : Int) := ⟨_, rfl⟩
    refine pl_val _ rfl rfl (val_load [.slice av vs.length capv, .slice ab body.length capb] hT rfl rfl rfl (hp3.range (by rfl))) ?_
    refine au ?_
    refine pl_op rfl rfl (opTo_call (fst := []) (cap := []) rfl rfl rfl rfl (by decide +kernel) ((hI.run _ (hh.keep hk03 hF.stays) (hF.keep hk03) (hic.keep0 hk03) (by omega) (by omega) (by omega)).mono ?_))
    rintro r w4 ⟨⟨ov4, cv4, rfl, ⟨hov4, hoc4⟩, hcv4, _⟩, hk4⟩
    rw [← hTe] at hov4 hcv4 ⊢
    have hov4' := hov4
    have hcv4' := hcv4
    obtain ⟨oa4, oc4, rfl, _⟩ := hov4'
    obtain ⟨ca4, cc4, rfl, _⟩ := hcv4'
    refine au ?_
    refine pl_op rfl rfl (opTo_allocN _ rfl zero_re ?_)
    intro w5 x5 hx5 hs5 hk5 hb5
    refine pl_op rfl rfl (opTo_storeN (resC T.code (.slice oa4 T.out.length oc4) (.slice ca4 T.cells.length cc4)) rfl rfl rfl rfl size_re hb5 (by simp [resC]) (resC_one _ _ _ _ _ _ _) ?_)
    intro w6 hs6 hk6 hb6
    rw [splice_whole (by rfl)] at hb6
    have hk46 : Keep [] w4 w6 := hk5.trB hk6 (by omega)
    have hk06 := (hk03.tr hk4).tr hk46
    have hp6 := (hk4.tr hk46).blk hp3 (by simp)
    have hov6 := hov4.keep0 hk46
    have hcv6 := hcv4.keep0 hk46
    refine au ?_
    by_cases hpf : ¬ progFault vs body = 0
    · have t5 : T.fault = progFault vs body := by rw [hTe, runI_not hpf]
      refine ye ?_
      refine au ?_
      exact rn_ret Try.func5 (.inl ⟨_, rfl, rfl⟩) ⟨rfl, hk06⟩
    replace hpf : progFault vs body = 0 := by omega
    have hT1 := runI_in (inp := inp) (fuel := ((f : Nat) : Int)) hpf (by omega) (by omega) (by omega)
    have hU1 := runI_in (inp := inp) (fuel := ((f : Nat) : Int)) (progFault_calm hpf) (by omega) (by omega) (by omega)
    rw [← hTe, Int.toNat_natCast] at hT1
    rw [← hUe, Int.toNat_natCast] at hU1
    have t5 : T.fault = 0 := by rw [hT1]; rfl
    have u5 : U.fault = 0 := by rw [hU1]; rfl
    have tc : T.code = (((resX (saysX vs body inp f)).1 : Nat) : Int) := by rw [hT1]; rfl
    refine nay ?_
    refine au ?_
    refine pl_val _ rfl rfl (val_load1 hT rfl rfl rfl (hb6.cell rfl)) ?_
    by_cases hc13 : T.code = 13
    · refine ye ?_
      refine au ?_
      exact rn_ret Try.func5 (.inl ⟨_, rfl, rfl⟩) ⟨rfl, hk06⟩
    obtain ⟨a1, a2, a3, a4⟩ := commitsI vs body inp f (by omega)
    have uc : U.code = T.code := by rw [hT1, hU1]; show (((resX (saysX vs (calmL body) inp f)).1 : Nat) : Int) = _; rw [a1]; rfl
    have uo : U.out = T.out := by rw [hT1, hU1]; exact a2
    have ue : U.cells = T.cells := by rw [hT1, hU1]; exact a3
    have un : U.used ≤ T.used := by
      have e1 : U.used = (((resX (saysX vs (calmL body) inp f)).2.2.2 : Nat) : Int) := by rw [hU1]; rfl
      have e2 : T.used = (((resX (saysX vs body inp f)).2.2.2 : Nat) : Int) := by rw [hT1]; rfl
      omega
    have hbt := runI_bnd (vs := vs) (body := body) (by omega) inp ((f : Nat) : Int)
    rw [← hTe] at hbt
    have hzc := sz_calmL body
    clear hT1 hU1 a1 a2 a3 a4 tc
    refine nay ?_
    refine auj ?_
    refine rn_seq ?_
    refine rn_with (fun σ' w' => ∃ g ov cv, Blk w' g (resC U.code ov cv) 31 ∧ LsV w' ov U.out ∧ LsV w' cv U.cells ∧ (∃ a k, ov = .slice a U.out.length k) ∧ (∃ a k, cv = .slice a U.cells.length k) ∧ Keep [] w6 w' ∧ Sub [(7, .pointer (some ⟨x5, 0, none⟩)), (8, .int .i64 T.used), (10, .pointer (some ⟨g, 0, none⟩)), (11, .int .i64 U.used), (12, .int .i64 U.fault)] σ') ?_ ?_
    rotate_left
    · intro fin1
      refine rn_draw (fun w' => Keep [] w6 w') [14] hMix ?_
      have hS : Keep [] w6 w6.drew := (Keep.refl _ _).drew
      generalize w6.drew = w7 at *
      refine dr_with 3 16383 (fun σ' w' => ∃ g ov cv, Blk w' g (resC 0 (.slice none 0 0) (.slice none 0 0)) 31 ∧ w6.heap.size ≤ g ∧ (∀ b q n c, ov = .slice (some ⟨b, q, none⟩) n c → 0 < n → b ≠ g) ∧ (∀ b q n c, cv = .slice (some ⟨b, q, none⟩) n c → 0 < n → b ≠ g) ∧ LsV w' ov U.out ∧ LsV w' cv U.cells ∧ (∃ a k, ov = .slice a U.out.length k) ∧ (∃ a k, cv = .slice a U.cells.length k) ∧ Keep [] w6 w' ∧ Sub [(7, .pointer (some ⟨x5, 0, none⟩)), (8, .int .i64 T.used), (10, .pointer (some ⟨g, 0, none⟩)), (55, .agg (resC U.code ov cv).toArray), (56, .int .i64 U.used), (57, .int .i64 U.fault)] σ') ?_ ?_
      · rintro σ' w8 ⟨g, ov, cv, hg, hgw, hno, hnc, hov8, hcv8, ⟨oa8, ok8, rfl⟩, ⟨ca8, ck8, rfl⟩, hS8, hsub⟩
        refine dr_sub hsub ?_
        refine dr_op 14 rfl (by decide +kernel) rfl rfl (opTo_storeN (resC U.code (.slice oa8 U.out.length ok8) (.slice ca8 U.cells.length ck8)) rfl rfl rfl rfl size_re hg (by simp [resC]) (resC_one _ _ _ _ _ _ _) ?_)
        intro w9 hs9 hk9 hb9
        rw [splice_whole (by rfl)] at hb9
        have hk69 := hS8.trB hk9 hgw
        refine ⟨fun h => absurd (by simp) h, ?_⟩
        refine tk 15 ?_
        refine tk 16 ?_
        refine dr_done (by decide +kernel) ?_
        have hng : ∀ {v : Value} {l : List Int}, LsV w8 v l → (∀ b q n c, v = .slice (some ⟨b, q, none⟩) n c → 0 < n → b ≠ g) → LsV w9 v l := fun {v l} hv hne => by
          obtain ⟨a, k, rfl, h2⟩ := hv
          refine ⟨a, k, rfl, fun h0 => ?_⟩
          obtain ⟨b, q, rfl, h3, h4⟩ := h2 h0
          exact ⟨b, q, rfl, Nat.lt_of_lt_of_le h3 hk9.size, range_keep h4 hk9 h3 (by simpa using hne b q _ k rfl h0)⟩
        exact fin1 _ _ ⟨g, _, _, hb9, hng hov8 hno, hng hcv8 hnc, ⟨_, _, rfl⟩, ⟨_, _, rfl⟩, hk69, rfl, rfl, rfl, rfl, rfl, trivial⟩
      intro fin2
      refine tk 0 ?_
      refine dr_val 1 (.slice av vs.length capv) rfl (by decide +kernel) rfl rfl (fun w9 hS9 => val_load1 hT rfl rfl rfl ((hS9.blk hp6 (by simp)).cell rfl)) hS ?_
      refine tk 2 ?_
      refine dr_val 3 (.slice ab body.length capb) rfl (by decide +kernel) rfl rfl (fun w9 hS9 => val_load1 hT rfl rfl rfl ((hS9.blk hp6 (by simp)).cell rfl)) hS ?_
      refine tk 6 ?_
      refine tk 7 ?_
      have cal : ∀ {w8 : World}, Keep [] w6 w8 → Ret Try.prog 11 [.slice ab body.length capb] w8 fun r w' => (∃ F' : Nat → Prop, StmtsV F' w' r (calmL body) ∧ ∀ c, F' c → c < w'.heap.size) ∧ Keep [] w8 w' := fun {w8} hk => by
        refine (calm_ret (szSs body + 1) body (Nat.lt_succ_self _) (by omega) (hb.keep (hk06.tr hk) hF.stays) (hF.keep (hk06.tr hk))).mono ?_
        rintro r w' ⟨⟨F', h1, h2⟩, hk'⟩
        exact ⟨⟨F', h1, fun c hc => (h2 c hc).2⟩, hk'⟩
      have rn : ∀ {w8 : World} {ra : Option Addr} {rc : Nat} {F' : Nat → Prop}, Keep [] w6 w8 → StmtsV F' w8 (.slice ra (calmL body).length rc) (calmL body) → (∀ c, F' c → c < w8.heap.size) → Ret Try.prog 8 [.agg [Value.slice av vs.length capv, .slice ra (calmL body).length rc].toArray, .slice ia inp.length icap, .int .i64 ((f : Nat) : Int)] w8 fun r w' => (∃ ov cv, r = .tuple #[.agg (resC (runI vs (calmL body) inp ((f : Nat) : Int)).code ov cv).toArray, .int .i64 (runI vs (calmL body) inp ((f : Nat) : Int)).used, .int .i64 (runI vs (calmL body) inp ((f : Nat) : Int)).fault] ∧ LsC w' ov (runI vs (calmL body) inp ((f : Nat) : Int)).out ∧ LsV w' cv (runI vs (calmL body) inp ((f : Nat) : Int)).cells ∧ Nw w8 ov ∧ Nw w8 cv) ∧ Keep [] w8 w' := fun {w8 ra rc F'} hk hr hFr =>
        hI.run (F := fun c => c < w8.heap.size) _ ⟨_, _, rfl, (hv.keep (hk06.tr hk) hF.stays).mono fun c hc => hF.keep (hk06.tr hk) c hc, hr.mono fun c hc => hFr c hc⟩ (fun c hc => hc) (hic.keep0 (hk06.tr hk)) (by omega) (by omega) (by omega)
      refine dr_op2 4 13 rfl rfl (by decide +kernel) rfl rfl rfl rfl ?_ ?_
      · refine opTo_call (fst := []) (cap := []) rfl rfl rfl rfl (by decide +kernel) ((cal hS).mono ?_)
        rintro r w8 ⟨⟨F8, hr8, hF8⟩, hk8⟩
        obtain ⟨ra, rc, rfl⟩ := hr8.form
        have hS8 := hS.tr hk8
        refine ⟨fun _ => hS8, ?_⟩
        refine dr_any 5 _ rfl (by decide +kernel) rfl rfl (fun w => val_build _ rfl rfl (built_pr2 _ _ _ _ _ _) w) ?_
        refine dr_op2 8 13 rfl rfl (by decide +kernel) rfl rfl rfl rfl ?_ ?_
        · refine opTo_call (fst := []) (cap := []) rfl rfl rfl rfl (by decide +kernel) ((rn hS8 hr8 hF8).mono ?_)
          rintro r w9 ⟨⟨ov, cv, rfl, ⟨hov, _⟩, hcv, hn1, hn2⟩, hk9⟩
          rw [← hUe] at hov hcv ⊢
          have hov' := hov
          have hcv' := hcv
          obtain ⟨oa9, oc9, rfl, hol⟩ := hov'
          obtain ⟨ca9, cc9, rfl, hcl⟩ := hcv'
          have hS9 := hS8.tr hk9
          refine ⟨fun _ => hS9, ?_⟩
          refine tk 9 ?_
          refine tk 10 ?_
          refine tk 11 ?_
          refine tk 12 ?_
          refine dr_op 13 rfl (by decide +kernel) rfl rfl (opTo_allocN _ rfl zero_re ?_)
          intro w10 g hg hs10 hk10 hb10
          refine ⟨fun _ => hS9.tr hk10, ?_⟩
          refine fin2 _ _ ⟨g, _, _, hb10, by have := hS9.size; omega, fun b q n c he h0 => ?_, fun b q n c he h0 => ?_, hov.keep0 hk10, hcv.keep0 hk10, ⟨_, _, rfl⟩, ⟨_, _, rfl⟩, hS9.tr hk10, rfl, rfl, rfl, rfl, rfl, rfl, trivial⟩
          · cases he
            obtain ⟨b', q', hb', h3, _⟩ := hol h0
            cases hb'
            omega
          · cases he
            obtain ⟨b', q', hb', h3, _⟩ := hcl h0
            cases hb'
            omega
        · refine opTo_allocN _ rfl zero_re ?_
          intro w9 g hg hs9 hk9 hb9
          have hS9 := hS8.tr hk9
          refine ⟨fun _ => hS9, ?_⟩
          refine dr_op 8 rfl (by decide +kernel) rfl rfl (opTo_call (fst := []) (cap := []) rfl rfl rfl rfl (by decide +kernel) ((rn hS9 (hr8.keep hk9 fun c hc => ⟨hF8 c hc, by simp⟩) (fun c hc => Nat.lt_of_lt_of_le (hF8 c hc) hk9.size)).mono ?_))
          rintro r w10 ⟨⟨ov, cv, rfl, ⟨hov, _⟩, hcv, hn1, hn2⟩, hk10⟩
          rw [← hUe] at hov hcv ⊢
          have hov' := hov
          have hcv' := hcv
          obtain ⟨oa9, oc9, rfl, hol⟩ := hov'
          obtain ⟨ca9, cc9, rfl, hcl⟩ := hcv'
          have hS10 := hS9.tr hk10
          refine ⟨fun _ => hS10, ?_⟩
          refine tk 9 ?_
          refine tk 10 ?_
          refine tk 11 ?_
          refine tk 12 ?_
          exact fin2 _ _ ⟨g, _, _, hk10.blk hb9 (by simp), by have := hS8.size; omega, fun b q n c he h0 => by have := hn1 b q n c he h0; omega, fun b q n c he h0 => by have := hn2 b q n c he h0; omega, hov, hcv, ⟨_, _, rfl⟩, ⟨_, _, rfl⟩, hS10, rfl, rfl, rfl, rfl, rfl, rfl, trivial⟩
      · refine opTo_allocN _ rfl zero_re ?_
        intro w8 g hg hs8 hk8 hb8
        have hS8 := hS.tr hk8
        refine ⟨fun _ => hS8, ?_⟩
        refine dr_op 4 rfl (by decide +kernel) rfl rfl (opTo_call (fst := []) (cap := []) rfl rfl rfl rfl (by decide +kernel) ((cal hS8).mono ?_))
        rintro r w9 ⟨⟨F9, hr9, hF9⟩, hk9⟩
        obtain ⟨ra, rc, rfl⟩ := hr9.form
        have hS9 := hS8.tr hk9
        refine ⟨fun _ => hS9, ?_⟩
        refine dr_any 5 _ rfl (by decide +kernel) rfl rfl (fun w => val_build _ rfl rfl (built_pr2 _ _ _ _ _ _) w) ?_
        refine dr_op 8 rfl (by decide +kernel) rfl rfl (opTo_call (fst := []) (cap := []) rfl rfl rfl rfl (by decide +kernel) ((rn hS9 hr9 hF9).mono ?_))
        rintro r w10 ⟨⟨ov, cv, rfl, ⟨hov, _⟩, hcv, hn1, hn2⟩, hk10⟩
        rw [← hUe] at hov hcv ⊢
        have hov' := hov
        have hcv' := hcv
        obtain ⟨oa9, oc9, rfl, hol⟩ := hov'
        obtain ⟨ca9, cc9, rfl, hcl⟩ := hcv'
        have hS10 := hS9.tr hk10
        refine ⟨fun _ => hS10, ?_⟩
        refine tk 9 ?_
        refine tk 10 ?_
        refine tk 11 ?_
        refine tk 12 ?_
        exact fin2 _ _ ⟨g, _, _, hk10.blk (hk9.blk hb8 (by simp)) (by simp), by have := hS.size; omega, fun b q n c he h0 => by have := hn1 b q n c he h0; have := hk9.size; omega, fun b q n c he h0 => by have := hn2 b q n c he h0; have := hk9.size; omega, hov, hcv, ⟨_, _, rfl⟩, ⟨_, _, rfl⟩, hS10, rfl, rfl, rfl, rfl, rfl, rfl, trivial⟩
    rintro σ w10 ⟨g, ov, cv, hg, hov10, hcv10, ⟨oa8, ok8, rfl⟩, ⟨ca8, ck8, rfl⟩, hk610, hsub⟩
    refine rn_sub hsub ?_
    clear hsub
    have hb610 := hk610.blk hb6 (by simp)
    refine au ?_
    refine ye ?_
    refine au ?_
    refine ye ?_
    refine au ?_
    refine pl_val _ rfl rfl (val_load (resC T.code (.slice oa4 T.out.length oc4) (.slice ca4 T.cells.length cc4)) hT rfl rfl rfl (hb610.range (by rfl))) ?_
    refine pl_val _ rfl rfl (val_load (resC U.code (.slice oa8 U.out.length ok8) (.slice ca8 U.cells.length ck8)) hT rfl rfl rfl (hg.range (by rfl))) ?_
    rw [uc]
    refine pl_op rfl rfl (opTo_call (fst := []) (cap := []) rfl rfl rfl rfl (by decide +kernel) ((sameRes_ret T.code (hov6.keep0 hk610) (hcv6.keep0 hk610) (by rw [← uo]; exact hov10) (by rw [← ue]; exact hcv10) (by omega) (by omega)).mono ?_))
    rintro r w11 ⟨rfl, hk11⟩
    refine au ?_
    exact rn_ret Try.func5 (.inl ⟨_, rfl, rfl⟩) ⟨rfl, (hk06.tr hk610).tr hk11⟩
end E
end Go.Proofs.Ytmdjgejahnmfmaf

/- Laws of single operations on strings, second part: s[l:h], s + t, an error held against nil, two faults (structs of two numbers) held against one another. -/
namespace Go.Proofs.Ytmdjgejahnmfmaf
set_option maxRecDepth 20000
set_option maxHeartbeats 4000000
namespace E

section
variable {P : Program} {n : Nat} {σ : Env} {o : Oper}

/-- s[l:h]. -/
theorem val_strCut {t : Nat} {x lo hi : Operand} {k1 k2 : IntKind} {i1 i2 : Int} (s : ByteArray) (l h : Nat) (ht : isStr P t = true) (ho : o.op = .slice t x (some lo) (some hi) none) (hx : ev σ x = some (.string s))
    (h1 : ev σ lo = some (.int k1 i1)) (h2 : ev σ hi = some (.int k2 i2)) (e1 : i1 = (l : Int)) (e2 : i2 = (h : Int)) (hl : l ≤ h) (hh : h ≤ s.size) (w : World) : Val P n σ o w (.string (s.extract l h)) := by
  intro ac ha
  subst e1; subst e2
  simp [execOp, ho, ha.eval hx, ha.eval h1, ha.eval h2, Instr.sliceAt, Instr.slice, Instr.sliceBounds, Instr.sliceBound, asIntOf, run_underlying (isStr_spec ht), hl, hh]
/-- s[l:]. -/
theorem val_strFrom {t : Nat} {x lo : Operand} {k1 : IntKind} {i1 : Int} (s : ByteArray) (l : Nat) (ht : isStr P t = true) (ho : o.op = .slice t x (some lo) none none) (hx : ev σ x = some (.string s))
    (h1 : ev σ lo = some (.int k1 i1)) (e1 : i1 = (l : Int)) (hl : l ≤ s.size) (w : World) : Val P n σ o w (.string (s.extract l s.size)) := by
  intro ac ha
  subst e1
  simp [execOp, ho, ha.eval hx, ha.eval h1, Instr.sliceAt, Instr.slice, Instr.sliceBounds, Instr.sliceBound, asIntOf, run_underlying (isStr_spec ht), hl]
/-- s[:h]. -/
theorem val_strTo {t : Nat} {x hi : Operand} {k2 : IntKind} {i2 : Int} (s : ByteArray) (h : Nat) (ht : isStr P t = true) (ho : o.op = .slice t x none (some hi) none) (hx : ev σ x = some (.string s))
    (h2 : ev σ hi = some (.int k2 i2)) (e2 : i2 = (h : Int)) (hh : h ≤ s.size) (w : World) : Val P n σ o w (.string (s.extract 0 h)) := by
  intro ac ha
  subst e2
  simp [execOp, ho, ha.eval hx, ha.eval h2, Instr.sliceAt, Instr.slice, Instr.sliceBounds, Instr.sliceBound, asIntOf, run_underlying (isStr_spec ht), hh]

/-- s + t. -/
theorem val_strAdd {t t' : Nat} {x y : Operand} (a b : ByteArray) (ho : o.op = .binOp .add t x y t') (hx : ev σ x = some (.string a)) (hy : ev σ y = some (.string b)) (hs : a.size + b.size ≤ 9223372036854775807) (w : World) : Val P n σ o w (.string (a ++ b)) := by
  intro ac ha
  simp only [execOp, ho, ha.eval hx, ha.eval hy, Sem.run_bind]
  simp [eqGuard, binOp, Op.stringOp]
  omega

/-- A string's bytes. -/
theorem toList_extract (s : ByteArray) (l h : Nat) : (s.extract l h).data.toList = (s.data.toList.drop l).take (h - l) := by
  rw [ByteArray.data_extract, Array.toList_extract, List.extract_eq_drop_take']
  rw [List.drop_take]
theorem toList_add (a b : ByteArray) : (a ++ b).data.toList = a.data.toList ++ b.data.toList := by
  rw [ByteArray.data_append, Array.toList_append]
theorem size_toList (s : ByteArray) : s.data.toList.length = s.size := by
  rw [Array.length_toList]; rfl

def isIface (P : Program) (t : Nat) : Bool :=
  match P.underlying t with
  | some (.interface _) => true
  | _ => false
theorem isIface_spec {t : Nat} (h : isIface P t = true) : ∃ ms, P.underlying t = some (.interface ms) := by
  unfold isIface at h
  split at h
  · rename_i ms hu; exact ⟨ms, hu⟩
  · cases h

theorem eq_nil_nil {t : Nat} {ms : Array (String × TypeId)} (hu : P.underlying t = some (.interface ms)) (w : World) : (Op.equal t .nilIface .nilIface).run P w = .ok true w := by
  have e : ∀ d, (Op.equalIn (d + 1) t .nilIface .nilIface).run P w = .ok true w := by
    intro d
    simp [Op.equalIn, run_underlying hu]
  exact e 9999
theorem eq_some_nil {t : Nat} {ms : Array (String × TypeId)} (hu : P.underlying t = some (.interface ms)) (tp : TypeId) (v : Value) (w : World) : (Op.equal t (.iface tp v) .nilIface).run P w = .ok false w := by
  have e : ∀ d, (Op.equalIn (d + 1) t (.iface tp v) .nilIface).run P w = .ok false w := by
    intro d
    simp [Op.equalIn, run_underlying hu]
  exact e 9999
/-- err != nil, err == nil. -/
theorem val_errNil {t t' : Nat} {x : Operand} (h : isIface P t = true) (ho : o.op = .binOp .neq t x (.const .nilIface) t') (hx : ev σ x = some .nilIface) (w : World) : Val P n σ o w (.bool false) := by
  intro ac ha
  obtain ⟨ms, hu⟩ := isIface_spec h
  have e := eq_nil_nil hu w
  have hc : ac.eval (.const .nilIface) = .nilIface := ha.eval (x := .const .nilIface) rfl
  simp [execOp, ho, ha.eval hx, hc, eqGuard, binOp, e]
theorem val_errSome {t t' : Nat} {x : Operand} (tp : TypeId) (v : Value) (h : isIface P t = true) (ho : o.op = .binOp .neq t x (.const .nilIface) t') (hx : ev σ x = some (.iface tp v)) (w : World) : Val P n σ o w (.bool true) := by
  intro ac ha
  obtain ⟨ms, hu⟩ := isIface_spec h
  have e := eq_some_nil hu tp v w
  have hc : ac.eval (.const .nilIface) = .nilIface := ha.eval (x := .const .nilIface) rfl
  simp [execOp, ho, ha.eval hx, hc, eqGuard, binOp, e]
theorem val_errNilE {t t' : Nat} {x : Operand} (h : isIface P t = true) (ho : o.op = .binOp .eql t x (.const .nilIface) t') (hx : ev σ x = some .nilIface) (w : World) : Val P n σ o w (.bool true) := by
  intro ac ha
  obtain ⟨ms, hu⟩ := isIface_spec h
  have e := eq_nil_nil hu w
  have hc : ac.eval (.const .nilIface) = .nilIface := ha.eval (x := .const .nilIface) rfl
  simp [execOp, ho, ha.eval hx, hc, eqGuard, binOp, e]
theorem val_errSomeE {t t' : Nat} {x : Operand} (tp : TypeId) (v : Value) (h : isIface P t = true) (ho : o.op = .binOp .eql t x (.const .nilIface) t') (hx : ev σ x = some (.iface tp v)) (w : World) : Val P n σ o w (.bool false) := by
  intro ac ha
  obtain ⟨ms, hu⟩ := isIface_spec h
  have e := eq_some_nil hu tp v w
  have hc : ac.eval (.const .nilIface) = .nilIface := ha.eval (x := .const .nilIface) rfl
  simp [execOp, ho, ha.eval hx, hc, eqGuard, binOp, e]

/-- A struct of two numbers. -/
def isTwo (P : Program) (t : Nat) : Bool :=
  match P.underlying t with
  | some (.struct fs) => match fs.toList with
    | [f, g] => f.offset == 0 && g.offset == 1 && (f.name != "_") && (g.name != "_") && (match P.underlying f.type with | some (.int _) => true | _ => false) && (match P.underlying g.type with | some (.int _) => true | _ => false) && !(P.stoodInHeld t) && !(P.eqGuardType P.depth t)
    | _ => false
  | _ => false

theorem run_equal_two {t : Nat} (h : isTwo P t = true) (a b x y : Int) (w : World) :
    (Op.equalIn 10000 t (.agg #[.int .i64 a, .int .i64 x]) (.agg #[.int .i64 b, .int .i64 y])).run P w = .ok (a == b && x == y) w ∧ P.eqGuardType P.depth t = false := by
  unfold isTwo at h
  split at h
  · rename_i fs hu
    split at h
    · rename_i f g hfs
      simp only [Bool.and_eq_true, beq_iff_eq, bne_iff_ne, Bool.not_eq_true'] at h
      obtain ⟨⟨⟨⟨⟨⟨⟨h1, h2⟩, h3⟩, h4⟩, h5⟩, h6⟩, h7⟩, h8⟩ := h
      refine ⟨?_, h8⟩
      have hf : P.fieldsOf t = fs := by simp [Program.fieldsOf, hu]
      split at h5
      · rename_i k0 hs
        split at h6
        · rename_i k hk
          rw [run_equalIn_struct w 9999 t _ _ (by rw [hf]; exact hu) h7, hf, hfs]
          have e1 := run_equalIn_int (P := P) w 9998 f.type .i64 k0 a b hs
          have e2 := run_equalIn_int (P := P) w 9998 g.type .i64 k x y hk
          have p1 : (part f.type #[.int .i64 a, .int .i64 x] 0).run P w = .ok (.int .i64 a) w := by simp [part, isAgg, run_underlying hs]
          have p2 : (part f.type #[.int .i64 b, .int .i64 y] 0).run P w = .ok (.int .i64 b) w := by simp [part, isAgg, run_underlying hs]
          have p3 : (part g.type #[.int .i64 a, .int .i64 x] 1).run P w = .ok (.int .i64 x) w := by simp [part, isAgg, run_underlying hk]
          have p4 : (part g.type #[.int .i64 b, .int .i64 y] 1).run P w = .ok (.int .i64 y) w := by simp [part, isAgg, run_underlying hk]
          simp only [Op.eqFields, h1, h2, h3, h4, ne_eq, not_false_eq_true, if_true, Sem.run_bind, p1, p2, Result.andThen_ok, e1]
          generalize (a == b) = p at *
          generalize (x == y) = q at *
          have e2' : (Op.equalIn 9999 g.type (.int .i64 x) (.int .i64 y)).run P w = .ok q w := e2
          cases p <;> cases q <;> simp [p3, p4, e2']
        · cases h6
      · cases h5
    · cases h
  · cases h
theorem val_neTwo {t t' : Nat} {x y : Operand} (a b k l : Int) (r : Bool) (h : isTwo P t = true) (ho : o.op = .binOp .neq t x y t') (hx : ev σ x = some (.agg #[.int .i64 a, .int .i64 k])) (hy : ev σ y = some (.agg #[.int .i64 b, .int .i64 l]))
    (hr : (!(a == b && k == l)) = r) (w : World) : Val P n σ o w (.bool r) := by
  intro ac ha
  subst hr
  obtain ⟨h1, h2⟩ := run_equal_two h a b k l w
  simp only [execOp, ho, ha.eval hx, ha.eval hy, Sem.run_bind, run_eqGuard_agg w .neq t _ _ _ _ h2, Result.andThen_ok, run_neq_struct, h1]
  simp
theorem val_eqTwo {t t' : Nat} {x y : Operand} (a b k l : Int) (r : Bool) (h : isTwo P t = true) (ho : o.op = .binOp .eql t x y t') (hx : ev σ x = some (.agg #[.int .i64 a, .int .i64 k])) (hy : ev σ y = some (.agg #[.int .i64 b, .int .i64 l]))
    (hr : (a == b && k == l) = r) (w : World) : Val P n σ o w (.bool r) := by
  intro ac ha
  subst hr
  obtain ⟨h1, h2⟩ := run_equal_two h a b k l w
  simp only [execOp, ho, ha.eval hx, ha.eval hy, Sem.run_bind, run_eqGuard_agg w .eql t _ _ _ _ h2, Result.andThen_ok, run_eql_struct, h1]
  simp
end
end E
end Go.Proofs.Ytmdjgejahnmfmaf

/- Operations of code that gives up by a panic of its own, and is caught. -/
namespace Go.Proofs.Ytmdjgejahnmfmaf
set_option maxRecDepth 20000
set_option maxHeartbeats 4000000
namespace E
open Go.Proofs

/-! ### Single operations -/
section
variable {P : Program} {T : Tbl} {n : Nat} {σ : Env} {o : Oper} {w : World}
/-- s[1:]. -/
theorem val_rest {t : TypeId} {x lo : Operand} {b q len cap sz : Nat} {k1 : IntKind} {i1 : Int} (hT : T.check P = true) (ho : o.op = .slice t x (some lo) none none) (hx : ev σ x = some (.slice (some ⟨b, q, none⟩) len cap))
    (h1 : ev σ lo = some (.int k1 i1)) (ht : find T.sl t = some sz) (e1 : i1 = 1) (hl : 1 ≤ len) (w : World) :
    Val P n σ o w (.slice (if cap = 1 then some ⟨b, q, none⟩ else some ⟨b, q + sz, none⟩) (len - 1) (cap - 1)) := by
  intro a ha
  subst e1
  have hs := Tbl.sl_ok hT ht
  unfold slOk at hs
  split at hs
  · rename_i e hu
    by_cases hc : cap = 1
    · simp [execOp, ho, ha.eval hx, ha.eval h1, Instr.sliceAt, Instr.slice, Instr.sliceBounds, Instr.sliceBound, asIntOf, run_underlying hu, sizeOk_run hs, hc]
      intro hh
      omega
    · simp [execOp, ho, ha.eval hx, ha.eval h1, Instr.sliceAt, Instr.slice, Instr.sliceBounds, Instr.sliceBound, asIntOf, run_underlying hu, sizeOk_run hs, hc, Addr.add_mid]
      intro hh
      omega
  · cases hs
def isStruct (P : Program) (t : Nat) : Bool :=
  match P.underlying t with
  | some (.struct _) => true
  | _ => false
theorem val_iface {t : TypeId} {x : Operand} {cs : Array Value} (hs : isStruct P t = true) (ho : o.op = .makeInterface t x) (hx : ev σ x = some (.agg cs)) (w : World) : Val P n σ o w (.iface t (.agg cs)) := by
  intro a ha
  unfold isStruct at hs
  split at hs
  · rename_i fs hu
    simp [execOp, ho, ha.eval hx, Instr.makeInterface, run_underlying hu]
  · cases hs
theorem opE_throw {x : Operand} {t : TypeId} {u : Value} {K Kp : Value → World → Prop} (ho : o.op = .panic x) (hx : ev σ x = some (.iface t u)) (hK : Kp (.iface t u) w) : OpE P n σ o w K Kp := by
  refine opE_panic (w' := w) (v := .iface t u) (fun a ha => ?_) hK
  simp [execOp, ho, ha.eval hx, Instr.panic, goPanic]
end

section
variable {P : Program} {n : Nat} {σ : Env} {o : Oper}
theorem val_assert {t xt : TypeId} {x : Operand} {u : Value} (hs : isStruct P t = true) (ho : o.op = .typeAssert x xt t false) (hx : ev σ x = some (.iface t u)) (w : World) : Val P n σ o w u := by
  intro a ha
  unfold isStruct at hs
  split at hs
  · rename_i fs hu
    simp [execOp, ho, ha.eval hx, Instr.typeAssert, run_underlying hu]
  · cases hs
end
theorem CallsD.mono' {P : Program} {f : FuncId} {args : Array Value} {u : FrameMode} {w : World} {R R' : Ending → FrameMode → World → Prop} (h : CallsD P f args u w R) (hr : ∀ e u' w', R e u' w' → R' e u' w') : CallsD P f args u w R' := fun c cs hc => by
  obtain ⟨e, u', w', fr, h1, h2⟩ := h c cs hc
  exact ⟨e, u', w', fr, hr e u' w' h1, h2⟩

end E
end Go.Proofs.Ytmdjgejahnmfmaf

/- The landed package ideal: how a runner lies in memory; giving up; contracts of giveUp, truth, count, read, cell. -/
namespace Go.Proofs.Ytmdjgejahnmfmaf
set_option maxRecDepth 20000
set_option maxHeartbeats 4000000
namespace E
open Go.Proofs

abbrev tRu : Nat := 53
theorem neRuL : tRu ≠ tLg := by decide
theorem size_rn : sizeOk Try.prog 3 1 = true := by kernel_rfl
theorem size_rl : sizeOk Try.prog 2 1 = true := by kernel_rfl
theorem size_rs : sizeOk Try.prog 26 1 = true := by kernel_rfl
/-- What the runner panics with. -/
def gvI (c : Nat) : Value := .iface 63 (.agg #[.int .i64 (c : Nat)])
theorem built_gI (a : Int) : Try.prog.built 63 [(0, .int .i64 a)] = some [Value.int .i64 a].toArray := by kernel_rfl
theorem iGiveUp_end (c : Nat) (w : World) : End Try.prog 32 [.int .i64 (c : Nat)] w (fun _ _ => False) (fun v w' => v = gvI c ∧ w' = w) := by
  refine end_of 5 Try.func32 rfl rfl (by simp) ?_
  refine au ?_
  refine pl_val _ rfl rfl (val_build _ rfl rfl (built_gI (c : Nat)) w) ?_
  refine pl_val _ rfl rfl (val_iface (by decide +kernel) rfl rfl w) ?_
  refine pl_opE Try.func32 rfl rfl (opE_throw rfl rfl ?_)
  exact ⟨rfl, rfl⟩
theorem iTruth_ret (t : Bool) (w : World) : Ret Try.prog 43 [.bool t] w fun r w' => r = .int .i64 (bitI t) ∧ w' = w := by
  refine ret_of 4 Try.func43 rfl rfl (by simp) ?_
  cases t
  · refine au ?_
    exact rn_ret Try.func43 (.inl ⟨_, rfl, rfl⟩) ⟨rfl, rfl⟩
  · refine au ?_
    exact rn_ret Try.func43 (.inl ⟨_, rfl, rfl⟩) ⟨rfl, rfl⟩

/-- What a run leaves alone: all blocks but those of numbers and of runners. -/
structure Rf (w w' : World) : Prop where
  size : w.heap.size ≤ w'.heap.size
  blk : ∀ {c : Nat} {L : List Value} {e : TypeId}, Blk w c L e → e ≠ tRu → e ≠ tLg → Blk w' c L e
theorem Rf.refl (w : World) : Rf w w := ⟨Nat.le_refl _, fun h _ _ => h⟩
theorem Rf.tr {w w' w'' : World} (h : Rf w w') (h' : Rf w' w'') : Rf w w'' := ⟨Nat.le_trans h.size h'.size, fun hb h1 h2 => h'.blk (h.blk hb h1 h2) h1 h2⟩
theorem Rf.of0 {w w' : World} (h : Keep [] w w') : Rf w w' := ⟨h.size, fun hb _ _ => h.blk hb (by simp)⟩
theorem Rf.of {w w' : World} {fp : List Nat} (h : Keep fp w w') (hf : ∀ k ∈ fp, ∃ L e, Blk w k L e ∧ (e = tRu ∨ e = tLg)) : Rf w w' :=
  ⟨h.size, fun hb h1 h2 => h.blk hb fun hm => by
    obtain ⟨L, e, hb', he⟩ := hf _ hm
    rcases he with he | he
    · exact Blk.ne hb hb' (fun h => h1 (h.trans he)) rfl
    · exact Blk.ne hb hb' (fun h => h2 (h.trans he)) rfl⟩

/-- What a runner is given: its program, input and fuel; where it lies, and its cells; the world in which it was not yet. -/
structure Kx where
  vs : List VarT
  bd : List ST
  F : Nat → Prop
  inp : List Int
  fuel : Nat
  w0 : World
  b : Nat
  vv : Value
  bv : Value
  cv : Value
structure Kx.Ok (C : Kx) : Prop where
  pr : ProgV C.F C.w0 (.agg #[C.vv, C.bv]) C.vs C.bd
  hF : In C.F C.w0
  sz : ∀ x ∈ C.vs, 1 ≤ x.2 ∧ x.2 ≤ 48
  vl : C.vs.length ≤ 8
  sum : sumV C.vs ≤ 48
  fu : C.fuel ≤ 3000
  il : C.inp.length ≤ 40
  ge : C.w0.heap.size ≤ C.b
theorem Kx.Ok.sized {C : Kx} (h : C.Ok) : Sized C.vs := ⟨by have := h.vl; omega, fun x hx => by have := h.sz x hx; omega⟩
/-- What of the input was not read. -/
def Un (w0 : World) (inp : List Int) (rd : Nat) (u : Value) : Prop :=
  ∃ a c, u = .slice a (inp.length - rd) c ∧ inp.length - rd ≤ c ∧ rd ≤ inp.length ∧ (rd < inp.length → ∃ g q, a = some ⟨g, q + rd, none⟩ ∧ g < w0.heap.size ∧ w0.rangeAt g q (lgs inp))
def ruC (C : Kx) (n : Nat) (u o : Value) : List Value := [.int .i64 (n : Nat), .int .i64 (C.fuel : Nat), C.vv, C.bv, u, C.cv, o]
/-- The runner as it is where s is. -/
structure Ru (C : Kx) (w : World) (u o : Value) (s : Es) : Prop where
  kp : Keep [] C.w0 w
  bk : Blk w C.b (ruC C s.n u o) tRu
  un : Un C.w0 C.inp s.read u
  rc : RowL w C.w0.heap.size C.cv s.cells
  ro : RowL w C.w0.heap.size o s.out
  ap : Apt C.cv o
  cl : (s.cells.length : Int) = sumV C.vs
  le : s.n ≤ C.fuel
  ol : s.out.length ≤ s.n
def Rt (C : Kx) (w : World) (s : Es) : Prop := ∃ u o, Ru C w u o s

section
variable {C : Kx} {w w1 w2 : World} {u o : Value} {s : Es}
theorem Ru.keep0 (h : Ru C w u o s) (hk : Keep [] w w1) : Ru C w1 u o s :=
  ⟨h.kp.tr hk, hk.blk h.bk (by simp), h.un, h.rc.keep hk (by simp), h.ro.keep hk (by simp), h.ap, h.cl, h.le, h.ol⟩
theorem Rt.keep0 (h : Rt C w s) (hk : Keep [] w w1) : Rt C w1 s := let ⟨u, o, h⟩ := h; ⟨u, o, h.keep0 hk⟩
theorem Rt.kp (h : Rt C w s) : Keep [] C.w0 w := let ⟨_, _, h⟩ := h; h.kp
theorem Rt.le (h : Rt C w s) : s.n ≤ C.fuel := let ⟨_, _, h⟩ := h; h.le
/-- Its own block alone has turned. -/
theorem Ru.put (hC : C.Ok) (h : Ru C w u o s) (hk : Keep [C.b] w w1) {u' : Value} {n rd : Nat} (hb : Blk w1 C.b (ruC C n u' o) tRu) (hu : Un C.w0 C.inp rd u') (hn : n ≤ C.fuel) (hn2 : s.n ≤ n) : Ru C w1 u' o { s with n := n, read := rd } ∧ Rf w w1 :=
  ⟨⟨h.kp.trB hk hC.ge, hb, hu, h.rc.keep hk (h.rc.ne h.bk neRuL), h.ro.keep hk (h.ro.ne h.bk neRuL), h.ap, h.cl, hn, Nat.le_trans h.ol hn2⟩, Rf.of hk fun k hm => ⟨ruC C s.n u o, tRu, by rw [List.mem_singleton.1 hm]; exact h.bk, .inl rfl⟩⟩
/-- A cell of it has turned. -/
theorem Ru.set (h : Ru C w u o s) {j : Nat} (hj : j < s.cells.length) {g cap : Nat} (hv : C.cv = .slice (some ⟨g, 0, none⟩) s.cells.length cap) : ∃ cur, Blk w g cur tLg ∧ j < cur.length ∧ ∀ {w' : World} {n : Int}, Keep [g] w w' → Blk w' g (splice cur j [.int .i64 n]) tLg → Ru C w' u o { s with cells := s.cells.set j n } ∧ Rf w w' := by
  obtain ⟨cur, h1, h2, h3⟩ := h.rc.set hj hv
  refine ⟨cur, h1, h2, fun {w' n} hk hb => ⟨⟨?_, hk.blk h.bk ?_, h.un, h3 hb, ?_, h.ap, by rw [List.length_set]; exact h.cl, h.le, h.ol⟩, Rf.of hk fun k hm => ⟨cur, tLg, by rw [List.mem_singleton.1 hm]; exact h1, .inr rfl⟩⟩⟩
  · refine h.kp.trans hk fun k hm => .inr ?_
    rw [List.mem_singleton.1 hm]
    exact (h.rc.lt g (by rw [hv]; simp [obs, Value.ownBlock])).1
  · simp only [List.mem_singleton]
    exact Blk.ne h.bk h1 neRuL
  · refine h.ro.keep hk fun k hk' hm => ?_
    rw [List.mem_singleton.1 hm] at hk'
    exact h.ap g (by rw [hv]; simp [obs, Value.ownBlock]) hk'
end

/-- It returns as X says, or gives up with X's code; where it is then. -/
def Gos {α : Type} (C : Kx) (f : Nat) (args : List Value) (w : World) (X : Ex α) (K : α → Value → World → Prop) : Prop :=
  End Try.prog f args w (fun r w' => ∃ a, X = .ok a ∧ K a r w' ∧ Rf w w') (fun v w' => ∃ e, X = .error e ∧ v = gvI e.1 ∧ Rt C w' e.2 ∧ Rf w w')
/-- What is called inside. -/
theorem gos_step {α β : Type} {C : Kx} {g : Nat} {args : List Value} {w w1 : World} {Y : Ex α} {T : Ex β} {k : α → Ex β} {K : α → Value → World → Prop} {KK : Value → World → Prop} (h : Gos C g args w1 Y K) (hX : T = bndX Y k) (hR : Rf w w1)
    (hk : ∀ a r w', T = k a → K a r w' → Rf w1 w' → Rf w w' → KK r w') : End Try.prog g args w1 KK (fun v w' => ∃ e, T = .error e ∧ v = gvI e.1 ∧ Rt C w' e.2 ∧ Rf w w') := by
  refine End.mono h ?_ ?_
  · rintro r w' ⟨a, rfl, h1, h2⟩
    exact hk a r w' hX h1 h2 (hR.tr h2)
  · rintro v w' ⟨e, rfl, h1, h2, h3⟩
    exact ⟨e, hX, h1, h2, hR.tr h3⟩
theorem bnd_id {α : Type} (X : Ex α) : X = bndX X Except.ok := by cases X <;> rfl

section
variable {C : Kx} {w : World} {u o : Value} {s : Es}
theorem iCount_end (hC : C.Ok) (h : Rt C w s) : Gos C 24 [.pointer (some ⟨C.b, 0, none⟩)] w (tick C.fuel s) fun s2 r w' => r = .tuple #[] ∧ s2 = { s with n := s.n + 1 } ∧ Rt C w' s2 := by
  obtain ⟨u, o, h⟩ := h
  have hle := h.le
  have hfu := hC.fu
  refine end_of 19 Try.func24 rfl rfl (by simp) ?_
  refine auj ?_
  refine rn_seq ?_
  refine rn_seq ?_
  refine rn_draw (fun w' => Keep [] w w') [] hMix ?_
  have hS : Keep [] w w.drew := (Keep.refl _ _).drew
  generalize w.drew = w2 at *
  refine tk 0 ?_
  refine tk 1 ?_
  refine tk 2 ?_
  refine dr_val 3 (.int .i64 (s.n : Nat)) rfl (by decide +kernel) rfl rfl (fun w9 hS9 => val_load1 hT rfl rfl rfl ((hS9.blk h.bk (by simp)).cell rfl)) hS ?_
  refine tk 4 ?_
  refine tk 5 ?_
  refine tk 6 ?_
  refine dr_val 7 (.int .i64 (C.fuel : Nat)) rfl (by decide +kernel) rfl rfl (fun w9 hS9 => val_load1 hT rfl rfl rfl ((hS9.blk h.bk (by simp)).cell rfl)) hS ?_
  have h2 := h.keep0 hS
  by_cases hlt : s.n < C.fuel
  · have hX : tick C.fuel s = .ok { s with n := s.n + 1 } := by unfold tick; rw [if_pos hlt]
    refine dno 8 ?_
    refine dr_done (by decide +kernel) ?_
    refine au ?_
    refine pl_val _ rfl rfl (val_load1 hT rfl rfl rfl (h2.bk.cell rfl)) ?_
    refine pl_num (((s.n + 1 : Nat) : Int)) rfl rfl rfl rfl rfl (by simp only [ariP]; omega) ?_
    refine au ?_
    refine pl_op rfl rfl (opTo_storeN [.int .i64 ((s.n + 1 : Nat) : Int)] rfl rfl rfl rfl size_rn h2.bk (by simp [ruC]) (one_in _) ?_)
    intro w3 hs3 hk3 hb3
    refine au ?_
    obtain ⟨h3, hR3⟩ := h2.put hC hk3 (n := s.n + 1) (rd := s.read) hb3 h2.un (by omega) (by omega)
    exact rn_end Try.func24 (.inr (.inl ⟨rfl, rfl⟩)) ⟨_, hX, ⟨rfl, rfl, u, o, h3⟩, (Rf.of0 hS).tr hR3⟩
  · have hX : tick C.fuel s = .error (13, s) := by unfold tick; rw [if_neg hlt]
    refine dye 8 ?_
    refine dr_done (by decide +kernel) ?_
    refine au ?_
    refine pl_opE Try.func24 rfl rfl (opE_call (fst := []) (cap := []) rfl rfl rfl rfl (by decide +kernel) ((iGiveUp_end 13 _).mono ?_ ?_))
    · intro v w' hf
      exact hf.elim
    · rintro v w' ⟨rfl, rfl⟩
      exact ⟨_, hX, rfl, ⟨u, o, h2⟩, Rf.of0 hS⟩

/-- A number of the input. -/
def readX (inp : List Int) (s : Es) : Ex (Int × Es) := if s.read < inp.length then .ok (inp.getD s.read 0, { s with read := s.read + 1 }) else .error (12, s)
theorem iRead_end (hC : C.Ok) (h : Rt C w s) : Gos C 39 [.pointer (some ⟨C.b, 0, none⟩)] w (readX C.inp s) fun a r w' => r = .int .i64 a.1 ∧ a.2 = { s with read := s.read + 1 } ∧ Rt C w' a.2 := by
  obtain ⟨u, o, h⟩ := h
  have hil := hC.il
  obtain ⟨a, c, rfl, hc, hrl, hat⟩ := h.un
  refine end_of 26 Try.func39 rfl rfl (by simp) ?_
  refine au ?_
  refine pl_val _ rfl rfl (val_load1 hT rfl rfl rfl (h.bk.cell rfl)) ?_
  refine au ?_
  by_cases hlt : s.read < C.inp.length
  · have hX : readX C.inp s = .ok (C.inp.getD s.read 0, { s with read := s.read + 1 }) := by unfold readX; rw [if_pos hlt]
    obtain ⟨g, q, rfl, hg, hra⟩ := hat hlt
    clear hat
    refine nay ?_
    refine au ?_
    refine pl_val _ rfl rfl (val_load1 hT rfl rfl rfl (h.bk.cell rfl)) ?_
    refine pl_val _ rfl rfl (val_index 0 hT rfl rfl rfl rfl rfl (by omega) w) ?_
    have hget : C.inp[s.read]? = some (C.inp.getD s.read 0) := by rw [List.getD_eq_getElem?_getD, List.getElem?_eq_getElem hlt]; rfl
    have hcell : w.cell? ⟨g, q + s.read, none⟩ = some (.int .i64 (C.inp.getD s.read 0)) := range_keep hra h.kp hg (by simp) s.read _ (lgs_at hget)
    refine pl_val _ rfl rfl (val_load1 hT rfl rfl rfl (hcell)) ?_
    refine au ?_
    refine pl_val _ rfl rfl (val_load1 hT rfl rfl rfl (h.bk.cell rfl)) ?_
    refine pl_val _ rfl rfl (val_rest hT rfl rfl rfl rfl rfl (by omega) w) ?_
    refine au ?_
    refine pl_op rfl rfl (opTo_storeN [.slice (if c = 1 then some ⟨g, q + s.read, none⟩ else some ⟨g, q + s.read + 1, none⟩) (C.inp.length - s.read - 1) (c - 1)] rfl rfl rfl rfl size_rs h.bk (by simp [ruC]) (one_v rfl) ?_)
    intro w3 hs3 hk3 hb3
    refine au ?_
    have hu : Un C.w0 C.inp (s.read + 1) (.slice (if c = 1 then some ⟨g, q + s.read, none⟩ else some ⟨g, q + s.read + 1, none⟩) (C.inp.length - s.read - 1) (c - 1)) :=
      ⟨if c = 1 then some ⟨g, q + s.read, none⟩ else some ⟨g, q + s.read + 1, none⟩, c - 1, by rw [show C.inp.length - (s.read + 1) = C.inp.length - s.read - 1 by omega], by omega, by omega, fun h1 => ⟨g, q, by rw [if_neg (by omega)]; rfl, hg, hra⟩⟩
    obtain ⟨h3, hR3⟩ := h.put hC hk3 (n := s.n) (rd := s.read + 1) hb3 hu h.le (Nat.le_refl _)
    exact rn_ret Try.func39 (.inl ⟨_, rfl, rfl⟩) ⟨_, hX, ⟨rfl, rfl, _, o, h3⟩, hR3⟩
  · have hX : readX C.inp s = .error (12, s) := by unfold readX; rw [if_neg hlt]
    refine ye ?_
    refine au ?_
    refine pl_opE Try.func39 rfl rfl (opE_call (fst := []) (cap := []) rfl rfl rfl rfl (by decide +kernel) ((iGiveUp_end 12 _).mono ?_ ?_))
    · intro v w' hf
      exact hf.elim
    · rintro v w' ⟨rfl, rfl⟩
      exact ⟨_, hX, rfl, ⟨_, o, h⟩, Rf.refl _⟩
end
end E
end Go.Proofs.Ytmdjgejahnmfmaf

/- The landed package ideal: contracts of cell, expr. -/
namespace Go.Proofs.Ytmdjgejahnmfmaf
set_option maxRecDepth 20000
set_option maxHeartbeats 4000000
namespace E
open Go.Proofs

theorem sizeV_at {vs : List VarT} {k : Nat} (hk : k < vs.length) : sizeV vs ((k : Nat) : Int) = vs[k].2 := by
  unfold sizeV
  rw [Int.toNat_natCast, List.getD_eq_getElem?_getD, List.getElem?_eq_getElem hk]
  rfl
theorem rcell_in {vs : List VarT} (hz : ∀ x ∈ vs, 1 ≤ x.2 ∧ x.2 ≤ 48) {v n : Int} (hv0 : 0 ≤ v) (hvl : v.toNat < vs.length) (_ : 0 ≤ n) (hn : n < sizeV vs v) : 0 ≤ cellOf vs v ∧ cellOf vs v + n < sumV vs := by
  obtain ⟨k, rfl⟩ : ∃ k : Nat, v = (k : Nat) := ⟨v.toNat, by omega⟩
  rw [Int.toNat_natCast] at hvl
  rw [sizeV_at hvl] at hn
  have h1 := sumV_take_succ (List.getElem?_eq_getElem hvl)
  have h2 := sumV_take_le hz (show k + 1 ≤ vs.length by omega)
  have h3 := sumV_take_le hz (Nat.zero_le k)
  rw [List.take_length] at h2
  have e : cellOf vs ((k : Nat) : Int) = sumV (vs.take k) := by unfold cellOf; rw [Int.toNat_natCast]
  rw [e]
  have h4 : sumV (vs.take 0) = 0 := by simp [sumV]
  omega
theorem size_pos {vs : List VarT} (hz : ∀ x ∈ vs, 1 ≤ x.2 ∧ x.2 ≤ 48) {v : Int} (hv0 : 0 ≤ v) (hvl : v.toNat < vs.length) : 1 ≤ sizeV vs v ∧ sizeV vs v ≤ 48 := by
  obtain ⟨k, rfl⟩ : ∃ k : Nat, v = (k : Nat) := ⟨v.toNat, by omega⟩
  rw [Int.toNat_natCast] at hvl
  rw [sizeV_at hvl]
  exact hz _ (List.getElem_mem _)

section
variable {C : Kx} {w : World} {u o : Value} {s : Es}
theorem iCell_end (hC : C.Ok) (h : Ru C w u o s) (v n : Int) (hv0 : 0 ≤ v) (hvl : v.toNat < C.vs.length) : End Try.prog 38 [.pointer (some ⟨C.b, 0, none⟩), .int .i64 v, .int .i64 n] w
    (fun r w' => (0 ≤ n ∧ n < sizeV C.vs v) ∧ (cellOf C.vs v + n).toNat < s.cells.length ∧ (∃ g cap, C.cv = .slice (some ⟨g, 0, none⟩) s.cells.length cap ∧ r = .pointer (some ⟨g, (cellOf C.vs v + n).toNat, none⟩)) ∧ Keep [] w w')
    (fun x w' => ¬ (0 ≤ n ∧ n < sizeV C.vs v) ∧ x = gvI 11 ∧ Keep [] w w') := by
  have hsz := size_pos hC.sz hv0 hvl
  have hin := rcell_in hC.sz hv0 hvl (n := n)
  have hsum := hC.sum
  have hcl := h.cl
  have hpr := hC.pr
  obtain ⟨vv', bv', hpe, hvv, hbb⟩ := hpr
  injection hpe with hpe
  have hpe2 := congrArg Array.toList hpe
  simp only [List.cons.injEq, and_true] at hpe2
  obtain ⟨hpe1, hpe2⟩ := hpe2
  rw [← hpe1] at hvv
  have hk : v = ((v.toNat : Nat) : Int) := by omega
  have hsv := sizeV_at hvl
  rw [← hk] at hsv
  have hxv : C.vs[v.toNat]? = some C.vs[v.toNat] := List.getElem?_eq_getElem hvl
  obtain ⟨vb, vq, vc, hve, hFv, hrv⟩ := hvv.at hxv
  refine end_of 36 Try.func38 rfl rfl (by simp) ?_
  refine au ?_
  by_cases hneg : n < 0
  · refine ye ?_
    refine au ?_
    refine pl_opE Try.func38 rfl rfl (opE_call (fst := []) (cap := []) rfl rfl rfl rfl (by decide +kernel) ((iGiveUp_end 11 _).mono ?_ ?_))
    · intro v w' hf
      exact hf.elim
    · rintro v w' ⟨rfl, rfl⟩
      exact ⟨by omega, rfl, Keep.refl _ _⟩
  · refine nay ?_
    refine au ?_
    refine pl_val (.slice (some ⟨vb, vq, none⟩) C.vs.length vc) rfl rfl (val_load1 hT rfl rfl rfl (h.bk.cell (by rw [← hve]; rfl))) ?_
    refine au ?_
    refine pl_val _ rfl rfl (val_index v.toNat hT rfl rfl rfl rfl hk hvl w) ?_
    refine au ?_
    refine pl_val _ rfl rfl (val_load1 hT rfl rfl rfl ((range_keep hrv h.kp (hC.hF _ hFv) (by simp)) 1 (.int .i64 C.vs[v.toNat].2) rfl)) ?_
    by_cases hge : n < sizeV C.vs v
    · obtain ⟨hi1, hi2⟩ := hin (by omega) hge
      rw [hsv] at hge
      refine nay ?_
      refine au ?_
      obtain ⟨j, hj⟩ : ∃ j : Nat, j = (cellOf C.vs v + n).toNat := ⟨_, rfl⟩
      have hjl : j < s.cells.length := by omega
      obtain ⟨g, cap, hcv, hglt, hgr⟩ := h.rc.at2 (List.getElem?_eq_getElem hjl)
      refine rn_draw (fun w' => Keep [] w w') [] hMix ?_
      have hS : Keep [] w w.drew := (Keep.refl _ _).drew
      generalize w.drew = w2 at *
      refine tk 0 ?_
      refine tk 1 ?_
      refine tk 2 ?_
      refine dr_val 3 (.slice (some ⟨g, 0, none⟩) s.cells.length cap) rfl (by decide +kernel) rfl rfl (fun w9 hS9 => val_load1 hT rfl rfl rfl ((hS9.blk h.bk (by simp)).cell (by rw [← hcv]; rfl))) hS ?_
      refine tk 4 ?_
      refine tk 5 ?_
      refine tk 6 ?_
      refine dr_val 7 (.agg #[C.vv, C.bv]) rfl (by decide +kernel) rfl rfl (fun w9 hS9 => val_load [C.vv, C.bv] hT rfl rfl rfl ((hS9.blk h.bk (by simp)).range (by rfl))) hS ?_
      refine tk 8 ?_
      refine tk 10 ?_
      refine dr_op 9 rfl (by decide +kernel) rfl rfl (opTo_call (fst := []) (cap := []) rfl rfl rfl rfl (by decide +kernel) ((cell_ret (hC.pr.keep (h.kp.tr hS) hC.hF.stays) (hC.hF.keep (h.kp.tr hS)) hC.sized v).mono ?_))
      rintro r w3 ⟨rfl, hk3⟩
      refine ⟨fun _ => hS.tr hk3, ?_⟩
      refine dr_num 11 ((j : Nat)) rfl (by decide +kernel) rfl rfl rfl rfl rfl (by simp only [ariP]; omega) ?_
      refine dr_any 12 _ rfl (by decide +kernel) rfl rfl (fun w => val_index j hT rfl rfl rfl rfl rfl hjl w) ?_
      refine tk 13 ?_
      refine dr_done (by decide +kernel) ?_
      refine au ?_
      refine rn_ret Try.func38 (.inl ⟨_, rfl, rfl⟩) ⟨⟨by omega, by rw [hsv]; exact hge⟩, by omega, ⟨g, cap, hcv, ?_⟩, hS.tr hk3⟩
      rw [← hj, Nat.zero_add, Nat.mul_one]
    · have hge' := hge
      rw [hsv] at hge
      refine ye ?_
      refine au ?_
      refine pl_opE Try.func38 rfl rfl (opE_call (fst := []) (cap := []) rfl rfl rfl rfl (by decide +kernel) ((iGiveUp_end 11 _).mono ?_ ?_))
      · intro v w' hf
        exact hf.elim
      · rintro v w' ⟨rfl, rfl⟩
        exact ⟨fun h => hge' h.2, rfl, Keep.refl _ _⟩
end
end E
end Go.Proofs.Ytmdjgejahnmfmaf
