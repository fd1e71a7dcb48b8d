/- PROVED: DeskJoins, of all lines and cuts: what lines tell one behind the other they tell together; what was asked again is told again; two desks know nothing of each other. Condition: the arguments hold together at most 1048576 values and letters (the second form's own); and the card's own: strconv's variables and the two tables of package parse hold what the program's text lays in them. -/
import Derived.Test.YtoigoojdbpbhoagGreatDoorCards
import Derived.Test.YtoigoojdbpbhoagGreatDoorTie
import Derived.Test.YtoigoojdbpbhoagGreatDoorJ10
import Derived.ProofKit
import Derived.LaidMore
import Derived.OpenShut
import Derived.ChangeOld
import Derived.Below
import Derived.ChangeMaps5
import Derived.Stop.Joined
import Derived.Stop.LaidErr
import Derived.Lib.LaidTab
import Derived.SevenTiedAt
import Derived.Deep.DeepHandedRow
import Derived.Deep.DeepWitnessRowRef
namespace Go.Proofs.YtoigoojdbpbhoagGreatDoor
open Go.ChangeShapes Go.WideShapes Go.ChangeAt Go.RowKit
theorem own : ownKnob Tryz.prog.godebug = none := by kernel_rfl
theorem laidOut : laidOutB Tryz.prog = true := by kernel_rfl
theorem gTab : Tryz.prog.globalNamed "internal/strconv.uint64pow10" = some 1 := by kernel_rfl
theorem gTabType : (Tryz.prog.globals[1]?).map (·.type) = some 219 := by kernel_rfl
theorem tabIs : Rows.laid_internal_strconv_uint64pow10 = (Lib.tabData .u64 Lib.pow10Tab : DataW Unit) := by kernel_rfl
theorem g_ErrRange : Tryz.prog.globalNamed "strconv.ErrRange" = some 3 := by kernel_rfl
theorem g_ErrRangeType : (Tryz.prog.globals[3]?).map (·.type) = some 106 := by kernel_rfl
theorem g_ErrSyntax : Tryz.prog.globalNamed "strconv.ErrSyntax" = some 2 := by kernel_rfl
theorem g_ErrSyntaxType : (Tryz.prog.globals[2]?).map (·.type) = some 106 := by kernel_rfl
theorem g_words : Tryz.prog.globalNamed "overwinter/parse.words" = some 7 := by kernel_rfl
theorem g_wordsType : (Tryz.prog.globals[7]?).map (·.type) = some 346 := by kernel_rfl
theorem wordsIs : Rows.laid_overwinter_parse_words = (E.strData E.wordsL : DataW Unit) := by kernel_rfl
theorem g_verbs : Tryz.prog.globalNamed "overwinter/parse.verbs" = some 6 := by kernel_rfl
theorem g_verbsType : (Tryz.prog.globals[6]?).map (·.type) = some 332 := by kernel_rfl
theorem verbsIs : Rows.laid_overwinter_parse_verbs = (E.strData E.verbsL : DataW Unit) := by kernel_rfl
theorem star : "*" ++ "errors.errorString" = "*errors.errorString" := by decide
theorem rowErr (u : TypeId) (h : Tryz.prog.typeName? 3 u = some "*errors.errorString") : u = 266 :=
 typeName_ptr_named (nm := "errors.errorString") (by rw [star]; kernel_rfl) (by kernel_rfl) (by decide) u (by rw [star]; exact h)
theorem cellsErr : Tryz.prog.cellsOf 268 = 1 := by kernel_rfl
theorem cellsStr : Tryz.prog.cellsOf 9 = 1 := by kernel_rfl
theorem of_laid {W : World} (h : laidMetH Tryz.prog Rows.deskJoinsUptoRow.laid W) : E.Lw W := by
 rw [MakeChecks.laidMetH_plain _ _ _ (by kernel_rfl)] at h
 have t0 : laidMet Tryz.prog [("math/bits.deBruijn32tab", Rows.laid_math_bits_deBruijn32tab), ("math/bits.deBruijn64tab", Rows.laid_math_bits_deBruijn64tab), ("internal/strconv.uint64pow10", Rows.laid_internal_strconv_uint64pow10), ("strconv.ErrRange", Rows.laid_strconv_ErrRange), ("strconv.ErrSyntax", Rows.laid_strconv_ErrSyntax), ("overwinter/parse.words", Rows.laid_overwinter_parse_words), ("overwinter/parse.verbs", Rows.laid_overwinter_parse_verbs)] W := h
 have t1 := t0.tail
 have t2 := t1.tail
 have t3 := t2.tail
 have t4 := t3.tail
 have t5 := t4.tail
 have t6 := t5.tail
 rw [tabIs] at t2
 have ht := Lib.tabIs_of_head gTab gTabType Tryz.underlying219 Tryz.underlying86 (by kernel_rfl) (by kernel_rfl) t2
 obtain ⟨a_ErrRange, s_ErrRange, h_ErrRange, _, _, _⟩ := laid_sentinel t3 g_ErrRange g_ErrRangeType Tryz.underlying106 rowErr Tryz.underlying266 Tryz.underlying268 rfl rfl Tryz.underlying9 cellsErr cellsStr
 obtain ⟨a_ErrSyntax, s_ErrSyntax, h_ErrSyntax, _, _, _⟩ := laid_sentinel t4 g_ErrSyntax g_ErrSyntaxType Tryz.underlying106 rowErr Tryz.underlying266 Tryz.underlying268 rfl rfl Tryz.underlying9 cellsErr cellsStr
 rw [wordsIs] at t5
 have h_words := E.strIs_of_head g_words g_wordsType Tryz.underlying346 Tryz.underlying9 (by kernel_rfl) (by kernel_rfl) t5
 rw [verbsIs] at t6
 have h_verbs := E.strIs_of_head g_verbs g_verbsType Tryz.underlying332 Tryz.underlying9 (by kernel_rfl) (by kernel_rfl) t6
 exact ⟨⟨ht, h_words, h_verbs⟩, ⟨_, _, h_ErrSyntax⟩, ⟨_, _, h_ErrRange⟩⟩
theorem door_met (os : Os) (args : Array Value) : laidMetH Tryz.prog Rows.deskJoinsUptoRow.laid ((World.doorLaid Tryz.prog 400 os).forCall (fun _ _ => 0) ⟨#[], args, []⟩).memory :=
 laidMetH_of_parts3 (fuel := 8) (laidMet_of_run' 8 (by kernel_rfl) (by kernel_rfl)) (by kernel_rfl) (by kernel_rfl)
theorem walked {w : World} {x0 : Value} {l0 : List (List UInt8)} (g0 : E.StV w x0 l0) (m0 : ∀ x ∈ l0, x.length ≤ 2000000) (a1 : Int) (hw : E.Lw w) :
  Calls Tryz.prog 4 #[x0, .int .i64 a1] w fun e w' => e = .returned (.bool true) ∧ Below w.heap.size w w' := by
 have h := E.deskJoins_ret (cut := a1) hw g0 m0
 exact Calls.mono h fun e w' ⟨v, he, hv, hk⟩ => ⟨by rw [he, hv], hk.below fun k hk => by cases hk⟩
theorem reads (os : Os) {H : Type} (enc : TypeId × Value → H) : ∃ places, DataW.whole enc Tryz.prog ((World.doorLaid Tryz.prog 400 os).forCall (fun _ _ => 0) ⟨#[], #[.slice none 0 0, .int .i64 0], []⟩).memory Tryz.f4.params.toList Rows.deskJoinsSpec.vars false #[.slice none 0 0, .int .i64 0].toList 8 = some ([.nil, .lit (.int .i64 0)], [], places) :=
 ⟨[], by kernel_rfl⟩
set_option maxRecDepth 100000 in
theorem lifted (os : Os) (started : os.Started) (H : Type) (enc : TypeId × Value → H) (F : Stop.Interp) :
  ReturnsInHanded {} Tryz.checked os 4 .any ((Rows.OpenSpec.upto Rows.deskJoinsSpec).preRow enc Tryz.prog Tryz.f4 Rows.deskJoinsUptoRow.domain false Rows.deskJoinsUptoRow.laid) (((Rows.OpenSpec.upto Rows.deskJoinsSpec).at F).post enc Tryz.prog Tryz.f4 false true false false) := by
 obtain ⟨places, hx⟩ := reads os enc
 refine returnsInHanded_of_row (C := Tryz.checked) (s := Rows.OpenSpec.upto Rows.deskJoinsSpec) own started (by kernel_rfl) Tryz.func4
  (witness_row_atRef (enc := enc) (C := Tryz.checked) false (World.doorLaid Tryz.prog 400 os) #[.slice none 0 0, .int .i64 0] rfl (by kernel_rfl) (by kernel_rfl) (by kernel_rfl)
   (OpenSpec.preRow_of_cond 8 hx (by kernel_rfl) (fun k hk => by cases hk; kernel_rfl) (by kernel_rfl) (door_met os _))) ?_
 intro W base args ds gs before hval0 hW _ hcond _ hL _ _
 have bound0 : Rows.uptoBulkAll (ds ++ gs) ≤ 1048576 := of_decide_eq_true (hcond _ rfl)
 have hval : ∀ (j : Nat) t v, Tryz.f4.params[j]? = some t → args[j]? = some v → Value.okWide Tryz.prog W .any base t v := hval0
 have hW' := hW
 obtain ⟨p, q, hA0, hV, rfl, hfz, hnd⟩ := hW
 have hA : DataW.TrodAll enc Tryz.prog W 0 (fun _ => true) true Tryz.f4.params.toList args.toList ds p := hA0
 rw [Tryz.params4] at hA hval
 obtain ⟨v0, vs0, d0, ds0, p0, q0, hargs, rfl, rfl, h0, r0⟩ := trodAll_cons hA
 obtain ⟨v1, vs1, d1, ds1, p1, q1, rfl, rfl, rfl, h1, r1⟩ := trodAll_cons r0
 obtain ⟨rfl, rfl, rfl⟩ := trodAll_nil r1
 obtain rfl : args = #[v0, v1] := by cases args; simp_all
 obtain ⟨rfl, rfl⟩ := trodVars_none hV
 have bound : Rows.uptoBulkAll [d0, d1] ≤ 1048576 := bound0
 obtain ⟨a0, len0, cap0, rfl⟩ := okWide_slice Tryz.underlying22 (hval 0 22 v0 rfl rfl)
 have k0 := h0
 have lt0 : ∀ x ∈ p0, x.block < W.heap.size := by obtain ⟨m, hm⟩ := k0; exact DataW.trod_lt m _ _ _ hm
 obtain ⟨l0, g0, b0⟩ := E.argT_of h0 rfl
 have m0 : ∀ x ∈ l0, x.length ≤ 2000000 := fun x hx => Nat.le_trans (b0 x hx) (Nat.le_trans (E.bulk_part (by simp)) (Nat.le_trans bound (by decide)))
 obtain ⟨a1, rfl, rfl, rfl, w1⟩ := open_int Tryz.underlying3 (hval 1 3 v1 rfl rfl) h1
 have hw := of_laid hL
 clear hA0 hval0
 refine (walked g0 m0 a1 hw).mono fun e W' ⟨he, bel⟩ => ?_
 subst he
 exact ⟨_, rfl, _, _, _, [], _, [], hW', trodAll_mk1 (shut_bool Tryz.underlying4 _), (trodAll_cons_mk (Below.trod laidOut (by kernel_rfl) (of_decide_eq_true (by kernel_rfl)) k0 bel lt0) (trodAll_cons_mk (shut_int Tryz.underlying3 w1) trodAll_mk0)), rfl, bel.frame _, fun h => by cases h⟩
theorem row_holds : Rows.DeskJoinsUptoSaid :=
 OpenClaim.holds_of_cond 4 Tryz.f4 rfl rfl rfl rfl rfl rfl rfl ⟨rfl, rfl, rfl, rfl, rfl⟩ rfl rfl rfl rfl rfl (by kernel_rfl) Tryz.func4 (by kernel_rfl)
  (of_decide_eq_true (by kernel_rfl)) (by unfold Func.isWrapper; first | (rw [if_pos (by decide +kernel)]; kernel_rfl) | (rw [if_neg (by decide +kernel)]; exact ⟨rfl, rfl⟩))
  (fun os started H enc _ F => by rw [OpenClaim.pre_eq_preRow]; exact lifted os started H enc F)
theorem holds : Rows.DeskJoinsUptoCardSaid :=
 Claim7.holds_tied_plain_at .later [] [.data, .data, .data, .sentinel, .sentinel, .data, .data] true (true, "7d60f71eafe73aada601241331e39234a7a0da538b9ab600d1c62561b26b458e") true
  row_holds (fun _ h => by cases h) (by kernel_rfl) (fun _ h => by cases h) deskJoinsUpto_row_tie rfl ⟨rfl, rfl⟩ (by kernel_rfl) rfl
  (fun f fn hf hfn => by
   obtain rfl : f = 4 := Option.some.inj ((show Tryz.prog.funcNamed "overwinter/overwinterlaw.DeskJoins" = some 4 by kernel_rfl).symm.trans hf) |>.symm
   obtain rfl : fn = Tryz.f4 := (Option.some.inj (Tryz.func4.symm.trans hfn)).symm
   exact ⟨by kernel_rfl, fun j t ht => by
    rw [Tryz.params4] at ht
    have hm : t ∈ [22, 3] := by simpa using Array.mem_of_getElem? ht
    have hall : ([22, 3].all fun u => !Tryz.prog.wantsStandIn u) = true := by kernel_rfl
    exact (show Tryz.prog.wantsStandIn t = false by simpa using List.all_eq_true.1 hall t hm)⟩)
  (by kernel_rfl)
end Go.Proofs.YtoigoojdbpbhoagGreatDoor
