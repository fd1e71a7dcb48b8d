/- PROVED: RenderPrints, of every program: what Print tells is what the document's own printing tells, and the program that was handed in stays. No condition beyond the card's own: strconv's variables and the two tables of package parse hold what the program's text lays in them. -/
import Derived.Test.YtbojicehfbeepadDoorCards
import Derived.Test.YtbojicehfbeepadDoorTie
import Derived.Test.YtbojicehfbeepadDoorJ10
import Derived.Test.YtbojicehfbeepadDoorJ11
import Derived.Test.YtbojicehfbeepadDoorJ12
import Derived.ProofKit
import Derived.LaidMore
import Derived.OpenShut
import Derived.ChangeOld
import Derived.Below
import Derived.ChangeMaps5
import Derived.Stop.Joined
import Derived.Stop.LaidErr
import Derived.Lib.LaidTab
import Derived.SevenTiedAt
namespace Go.Proofs.YtbojicehfbeepadDoor
open Go.ChangeShapes Go.WideShapes Go.ChangeAt Go.RowKit

theorem own : ownKnob Tryd.prog.godebug = none := by kernel_rfl
theorem laidOut : laidOutB Tryd.prog = true := by kernel_rfl
theorem gTab : Tryd.prog.globalNamed "internal/strconv.uint64pow10" = some 2 := by kernel_rfl
theorem gTabType : (Tryd.prog.globals[2]?).map (·.type) = some 115 := by kernel_rfl
theorem tabIs : Rows.laid_internal_strconv_uint64pow10 = (Lib.tabData .u64 Lib.pow10Tab : DataW Unit) := by kernel_rfl
theorem g_words : Tryd.prog.globalNamed "overwinter/parse.words" = some 1 := by kernel_rfl
theorem g_wordsType : (Tryd.prog.globals[1]?).map (·.type) = some 113 := by kernel_rfl
theorem wordsIs : Rows.laid_overwinter_parse_words = (E.strData E.wordsL : DataW Unit) := by kernel_rfl
theorem g_verbs : Tryd.prog.globalNamed "overwinter/parse.verbs" = some 0 := by kernel_rfl
theorem g_verbsType : (Tryd.prog.globals[0]?).map (·.type) = some 103 := by kernel_rfl
theorem verbsIs : Rows.laid_overwinter_parse_verbs = (E.strData E.verbsL : DataW Unit) := by kernel_rfl

/-- What the listed variables give. -/
theorem of_laid {W : World} (h : laidMetH Tryd.prog Rows.renderPrintsRow.laid W) : E.Lt W := by
  rw [MakeChecks.laidMetH_plain _ _ _ (by kernel_rfl)] at h
  have t0 : laidMet Tryd.prog [("math/bits.deBruijn32tab", Rows.laid_math_bits_deBruijn32tab), ("math/bits.deBruijn64tab", Rows.laid_math_bits_deBruijn64tab), ("internal/strconv.uint64pow10", Rows.laid_internal_strconv_uint64pow10), ("overwinter/parse.words", Rows.laid_overwinter_parse_words), ("overwinter/parse.verbs", Rows.laid_overwinter_parse_verbs)] W := h
  have t1 := t0.tail
  have t2 := t1.tail
  have t3 := t2.tail
  have t4 := t3.tail
  rw [tabIs] at t2
  have ht := Lib.tabIs_of_head gTab gTabType Tryd.underlying115 Tryd.underlying106 (by kernel_rfl) (by kernel_rfl) t2
  rw [wordsIs] at t3
  have h_words := E.strIs_of_head g_words g_wordsType Tryd.underlying113 Tryd.underlying9 (by kernel_rfl) (by kernel_rfl) t3
  rw [verbsIs] at t4
  have h_verbs := E.strIs_of_head g_verbs g_verbsType Tryd.underlying103 Tryd.underlying9 (by kernel_rfl) (by kernel_rfl) t4
  exact ⟨ht, h_words, h_verbs⟩

/-- The door's own heap meets the condition. -/
theorem door_met (os : Os) (args : Array Value) : laidMetH Tryd.prog Rows.renderPrintsRow.laid ((World.doorLaid Tryd.prog 400 os).forCall (fun _ _ => 0) ⟨#[], args, []⟩).memory :=
  laidMetH_of_parts3 (fuel := 8) (laidMet_of_run' 8 (by kernel_rfl) (by kernel_rfl)) (by kernel_rfl) (by kernel_rfl)

theorem walked {w : World} {x0 : Value} {vs0 : List E.VarT} {bd0 : List E.ST} (g0 : E.ProgV (fun b => b < w.heap.size) w x0 vs0 bd0) (l0 : E.longSs bd0) (hw : E.Lt w) :
    Calls Tryd.prog 3 #[x0] w fun e w' => e = .returned (.bool true) ∧ Below w.heap.size w w' := by
  have h := E.renderPrints_ret E.prC g0 l0 hw
  exact Calls.mono h fun e w' ⟨v, he, hv, hk⟩ => ⟨by rw [he, hv], hk.below fun k hk => by cases hk⟩

set_option maxRecDepth 100000 in
theorem lifted (os : Os) (started : os.Started) (H : Type) (enc : TypeId × Value → H) :
    ReturnsInHanded {} Tryd.checked os 3 .any (fun w args => (Rows.renderPrintsSpec.pre enc Tryd.prog Tryd.f3 [] false w args ∧ laidMetH Tryd.prog Rows.renderPrintsRow.laid w) ∧ sizedMet enc Tryd.prog Tryd.f3 (OpenSpec.ofChange Rows.renderPrintsSpec) false w args)
      (Rows.renderPrintsSpec.post enc Tryd.prog Tryd.f3 false true false false) := by
  refine returnsInHanded_of_change_and (C := Tryd.checked) (X := fun w _ => laidMetH Tryd.prog Rows.renderPrintsRow.laid w) (fun _ _ _ hh h => h.of_heap hh) own started (by kernel_rfl) Tryd.func3
    (ChangeSpec.witness_shaped (enc := enc) (C := Tryd.checked) (os := os) (X := fun w _ => laidMetH Tryd.prog Rows.renderPrintsRow.laid w) false (World.doorLaid Tryd.prog 400 os) #[.agg #[.slice none 0 0, .slice none 0 0]] 8 rfl (World.shaped_of_RefB (by kernel_rfl) (by kernel_rfl)) (by kernel_rfl) (by kernel_rfl) (by kernel_rfl) (door_met os _)) ?_
  intro W base args ds gs before hval0 hW _ _ hL _
  have hval : ∀ (j : Nat) t v, Tryd.f3.params[j]? = some t → args[j]? = some v → Value.okWide Tryd.prog W .any base t v := hval0
  have hW' := hW
  obtain ⟨p, q, hA0, hV, rfl, hfz, hnd⟩ := hW
  have hA : DataW.TrodAll enc Tryd.prog W 0 (fun _ => true) true Tryd.f3.params.toList args.toList ds p := hA0
  rw [Tryd.params3] at hA hval
  obtain ⟨v0, vs0, d0, ds0, p0, q0, hargs, rfl, rfl, h0, r0⟩ := trodAll_cons hA
  obtain ⟨rfl, rfl, rfl⟩ := trodAll_nil r0
  obtain rfl : args = #[v0] := by cases args; simp_all
  obtain ⟨rfl, rfl⟩ := trodVars_none hV
  obtain ⟨cs0, rfl, _⟩ := okWide_struct Tryd.underlying25 (hval 0 25 v0 rfl rfl)
  have k0 := h0
  have lt0 : ∀ x ∈ p0, x.block < W.heap.size := by obtain ⟨m, hm⟩ := k0; exact DataW.trod_lt m _ _ _ hm
  obtain ⟨vs0, bd0, g0, l0⟩ := E.prog_ofL h0
  have hw := of_laid hL
  clear hA0 hval0
  refine (walked g0 l0 hw).mono fun e W' ⟨he, bel⟩ => ?_
  subst he
  exact ⟨_, rfl, _, _, _, [], _, [], hW', trodAll_mk1 (shut_bool Tryd.underlying4 _), (trodAll_cons_mk (Below.trod laidOut (by kernel_rfl) (of_decide_eq_true (by kernel_rfl)) k0 bel lt0) trodAll_mk0), rfl, bel.frame _, fun h => by cases h⟩

theorem row_holds : Rows.RenderPrintsSaid :=
  OpenClaim.holds_of_wide 3 Tryd.f3 rfl rfl rfl rfl rfl rfl rfl ⟨rfl, rfl, rfl, rfl, rfl⟩ rfl rfl rfl rfl rfl (by kernel_rfl) Tryd.func3 (by kernel_rfl)
    (of_decide_eq_true (by kernel_rfl)) (by unfold Func.isWrapper; first | (rw [if_pos (by decide +kernel)]; kernel_rfl) | (rw [if_neg (by decide +kernel)]; exact ⟨rfl, rfl⟩))
    (fun os started H enc _ => lifted os started H enc)

theorem holds : Rows.RenderPrintsCardSaid :=
  Claim7.holds_tied_plain_at .later [] [.data, .data, .data, .data, .data] true (true, "980b239e5aee545a46d735921ad3ef317c44074bdc2dcb7afe7bda69c75817a3") false
    row_holds (fun _ h => by cases h) (by kernel_rfl) (fun _ h => by cases h) renderPrints_row_tie rfl ⟨rfl, rfl⟩ (by kernel_rfl) rfl
    (fun f fn hf hfn => by
      obtain rfl : f = 3 := Option.some.inj ((show Tryd.prog.funcNamed "overwinter/overwinterlaw.RenderPrints" = some 3 by kernel_rfl).symm.trans hf) |>.symm
      obtain rfl : fn = Tryd.f3 := (Option.some.inj (Tryd.func3.symm.trans hfn)).symm
      exact ⟨by kernel_rfl, fun j t ht => by
        rw [Tryd.params3] at ht
        have hm : t ∈ [25] := by simpa using Array.mem_of_getElem? ht
        have hall : ([25].all fun u => !Tryd.prog.wantsStandIn u) = true := by kernel_rfl
        exact (show Tryd.prog.wantsStandIn t = false by simpa using List.all_eq_true.1 hall t hm)⟩)
    (by kernel_rfl)
end Go.Proofs.YtbojicehfbeepadDoor
