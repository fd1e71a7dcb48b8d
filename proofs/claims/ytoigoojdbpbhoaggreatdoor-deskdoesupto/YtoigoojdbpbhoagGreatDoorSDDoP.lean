/- PROVED: DeskDoes, of all lines: every Do is as the document says, one behind the other. Condition: the arguments hold together at most 1048576 values and letters (the second form's own); and the card's own: strconv's variables and the two tables of package parse hold what the program's text lays in them. -/
import Derived.Test.YtoigoojdbpbhoagGreatDoorCards
import Derived.Test.YtoigoojdbpbhoagGreatDoorTie
import Derived.Test.YtoigoojdbpbhoagGreatDoorJ14
import Derived.ProofKit
import Derived.LaidMore
import Derived.OpenShut
import Derived.ChangeOld
import Derived.Below
import Derived.ChangeMaps5
import Derived.Stop.Joined
import Derived.Stop.LaidErr
import Derived.Lib.LaidTab
import Derived.SevenTiedAt
import Derived.Deep.DeepHandedRow
import Derived.Deep.DeepWitnessRowRef
namespace Go.Proofs.YtoigoojdbpbhoagGreatDoor
open Go.ChangeShapes Go.WideShapes Go.ChangeAt Go.RowKit
theorem own : ownKnob Tryz.prog.godebug = none := by kernel_rfl
theorem laidOut : laidOutB Tryz.prog = true := by kernel_rfl
theorem am9 : Tryz.prog.globalNamed "internal/strconv.uint64pow10" = some 1 := by kernel_rfl
theorem ahC : (Tryz.prog.globals[1]?).map (·.type) = some 219 := by kernel_rfl
theorem alI : Rows.laid_internal_strconv_uint64pow10 = (Lib.tabData .u64 Lib.pow10Tab : DataW Unit) := by kernel_rfl
theorem aeT : Tryz.prog.globalNamed "strconv.ErrRange" = some 3 := by kernel_rfl
theorem ac1 : (Tryz.prog.globals[3]?).map (·.type) = some 106 := by kernel_rfl
theorem ad3 : Tryz.prog.globalNamed "strconv.ErrSyntax" = some 2 := by kernel_rfl
theorem acX : (Tryz.prog.globals[2]?).map (·.type) = some 106 := by kernel_rfl
theorem ajF : Tryz.prog.globalNamed "overwinter/parse.words" = some 7 := by kernel_rfl
theorem ad4 : (Tryz.prog.globals[7]?).map (·.type) = some 346 := by kernel_rfl
theorem ajG : Rows.laid_overwinter_parse_words = (E.Gj E.O_ : DataW Unit) := by kernel_rfl
theorem ajH : Tryz.prog.globalNamed "overwinter/parse.verbs" = some 6 := by kernel_rfl
theorem ad5 : (Tryz.prog.globals[6]?).map (·.type) = some 332 := by kernel_rfl
theorem ajI : Rows.laid_overwinter_parse_verbs = (E.Gj E.Pa : DataW Unit) := by kernel_rfl
theorem star : "*" ++ "errors.errorString" = "*errors.errorString" := by decide
theorem YL (u : TypeId) (h : Tryz.prog.typeName? 3 u = some "*errors.errorString") : u = 266 :=
 typeName_ptr_named (nm := "errors.errorString") (by rw [star]; kernel_rfl) (by kernel_rfl) (by decide) u (by rw [star]; exact h)
theorem Wx : Tryz.prog.cellsOf 268 = 1 := by kernel_rfl
theorem Wy : Tryz.prog.cellsOf 9 = 1 := by kernel_rfl
theorem ajJ {W : World} (h : laidMetH Tryz.prog Rows.deskDoesUptoRow.laid W) : E.Lw W := by
 rw [MakeChecks.laidMetH_plain _ _ _ (by kernel_rfl)] at h
 have t0 : laidMet Tryz.prog [("math/bits.deBruijn32tab", Rows.laid_math_bits_deBruijn32tab), ("math/bits.deBruijn64tab", Rows.laid_math_bits_deBruijn64tab), ("internal/strconv.uint64pow10", Rows.laid_internal_strconv_uint64pow10), ("strconv.ErrRange", Rows.laid_strconv_ErrRange), ("strconv.ErrSyntax", Rows.laid_strconv_ErrSyntax), ("overwinter/parse.words", Rows.laid_overwinter_parse_words), ("overwinter/parse.verbs", Rows.laid_overwinter_parse_verbs)] W := h
 have t1 := t0.tail
 have t2 := t1.tail
 have t3 := t2.tail
 have t4 := t3.tail
 have t5 := t4.tail
 have t6 := t5.tail
 rw [alI] at t2
 have ht := Lib.tabIs_of_head am9 ahC Tryz.underlying219 Tryz.underlying86 (by kernel_rfl) (by kernel_rfl) t2
 obtain ⟨arc, ard, aeU, _, _, _⟩ := laid_sentinel t3 aeT ac1 Tryz.underlying106 YL Tryz.underlying266 Tryz.underlying268 rfl rfl Tryz.underlying9 Wx Wy
 obtain ⟨ara, arb, ad6, _, _, _⟩ := laid_sentinel t4 ad3 acX Tryz.underlying106 YL Tryz.underlying266 Tryz.underlying268 rfl rfl Tryz.underlying9 Wx Wy
 rw [ajG] at t5
 have ajK := E.Th ajF ad4 Tryz.underlying346 Tryz.underlying9 (by kernel_rfl) (by kernel_rfl) t5
 rw [ajI] at t6
 have ajL := E.Th ajH ad5 Tryz.underlying332 Tryz.underlying9 (by kernel_rfl) (by kernel_rfl) t6
 exact ⟨⟨ht, ajK, ajL⟩, ⟨_, _, ad6⟩, ⟨_, _, aeU⟩⟩
theorem ahD (os : Os) (args : Array Value) : laidMetH Tryz.prog Rows.deskDoesUptoRow.laid ((World.doorLaid Tryz.prog 400 os).forCall (fun _ _ => 0) ⟨#[], args, []⟩).memory :=
 laidMetH_of_parts3 (fuel := 8) (laidMet_of_run' 8 (by kernel_rfl) (by kernel_rfl)) (by kernel_rfl) (by kernel_rfl)
theorem walked {w : World} {x0 : Value} {l0 : List (List UInt8)} (g0 : E.gz w x0 l0) (m0 : ∀ x ∈ l0, x.length ≤ 2000000) {x1 : Value} {l1 : List (List UInt8)} (g1 : E.gz w x1 l1) (m1 : ∀ x ∈ l1, x.length ≤ 2000000) (hw : E.Lw w) :
  Calls Tryz.prog 3 #[x0, x1] w fun e w' => e = .returned (.bool true) ∧ Below w.heap.size w w' := by
 have h := E.ads hw g0 m0 g1 m1
 exact Calls.mono h fun e w' ⟨v, he, hv, hk⟩ => ⟨by rw [he, hv], hk.below fun k hk => by cases hk⟩
theorem reads (os : Os) {H : Type} (enc : TypeId × Value → H) : ∃ places, DataW.whole enc Tryz.prog ((World.doorLaid Tryz.prog 400 os).forCall (fun _ _ => 0) ⟨#[], #[.slice none 0 0, .slice none 0 0], []⟩).memory Tryz.f3.params.toList Rows.deskDoesSpec.vars false #[.slice none 0 0, .slice none 0 0].toList 8 = some ([.nil, .nil], [], places) :=
 ⟨[], by kernel_rfl⟩
set_option maxRecDepth 100000 in
theorem lifted (os : Os) (started : os.Started) (H : Type) (enc : TypeId × Value → H) (F : Stop.Interp) :
  ReturnsInHanded {} Tryz.checked os 3 .any ((Rows.OpenSpec.upto Rows.deskDoesSpec).preRow enc Tryz.prog Tryz.f3 Rows.deskDoesUptoRow.domain false Rows.deskDoesUptoRow.laid) (((Rows.OpenSpec.upto Rows.deskDoesSpec).at F).post enc Tryz.prog Tryz.f3 false true false false) := by
 obtain ⟨places, hx⟩ := reads os enc
 refine returnsInHanded_of_row (C := Tryz.checked) (s := Rows.OpenSpec.upto Rows.deskDoesSpec) own started (by kernel_rfl) Tryz.func3
  (witness_row_atRef (enc := enc) (C := Tryz.checked) false (World.doorLaid Tryz.prog 400 os) #[.slice none 0 0, .slice none 0 0] rfl (by kernel_rfl) (by kernel_rfl) (by kernel_rfl)
   (OpenSpec.preRow_of_cond 8 hx (by kernel_rfl) (fun k hk => by cases hk; kernel_rfl) (by kernel_rfl) (ahD os _))) ?_
 intro W base args ds gs before Zb hW _ alJ _ hL _ _
 have ak0 : Rows.uptoBulkAll (ds ++ gs) ≤ 1048576 := of_decide_eq_true (alJ _ rfl)
 have Qg : ∀ (j : Nat) t v, Tryz.f3.params[j]? = some t → args[j]? = some v → Value.okWide Tryz.prog W .any base t v := Zb
 have hW' := hW
 obtain ⟨p, q, yP, hV, rfl, hfz, xx⟩ := hW
 have hA : DataW.TrodAll enc Tryz.prog W 0 (fun _ => true) true Tryz.f3.params.toList args.toList ds p := yP
 rw [Tryz.params3] at hA Qg
 obtain ⟨v0, vs0, d0, xy, p0, q0, zJ, rfl, rfl, h0, r0⟩ := trodAll_cons hA
 obtain ⟨v1, vs1, d1, ds1, p1, q1, rfl, rfl, rfl, h1, r1⟩ := trodAll_cons r0
 obtain ⟨rfl, rfl, rfl⟩ := trodAll_nil r1
 obtain rfl : args = #[v0, v1] := by cases args; simp_all
 obtain ⟨rfl, rfl⟩ := trodVars_none hV
 have bound : Rows.uptoBulkAll [d0, d1] ≤ 1048576 := ak0
 obtain ⟨a0, arE, am_, rfl⟩ := okWide_slice Tryz.underlying22 (Qg 0 22 v0 rfl rfl)
 have k0 := h0
 have lt0 : ∀ x ∈ p0, x.block < W.heap.size := by obtain ⟨m, hm⟩ := k0; exact DataW.trod_lt m _ _ _ hm
 obtain ⟨l0, g0, b0⟩ := E.XM h0 rfl
 have m0 : ∀ x ∈ l0, x.length ≤ 2000000 := fun x hx => Nat.le_trans (b0 x hx) (Nat.le_trans (E.NU (by simp)) (Nat.le_trans bound (by decide)))
 obtain ⟨a1, arF, arG, rfl⟩ := okWide_slice Tryz.underlying22 (Qg 1 22 v1 rfl rfl)
 have k1 := h1
 have lt1 : ∀ x ∈ p1, x.block < W.heap.size := by obtain ⟨m, hm⟩ := k1; exact DataW.trod_lt m _ _ _ hm
 obtain ⟨l1, g1, b1⟩ := E.XM h1 rfl
 have m1 : ∀ x ∈ l1, x.length ≤ 2000000 := fun x hx => Nat.le_trans (b1 x hx) (Nat.le_trans (E.NU (by simp)) (Nat.le_trans bound (by decide)))
 have hw := ajJ hL
 clear yP Zb
 refine (walked g0 m0 g1 m1 hw).mono fun e W' ⟨he, RT⟩ => ?_
 subst he
 exact ⟨_, rfl, _, _, _, [], _, [], hW', trodAll_mk1 (shut_bool Tryz.underlying4 _), (trodAll_cons_mk (Below.trod laidOut (by kernel_rfl) (of_decide_eq_true (by kernel_rfl)) k0 RT lt0) (trodAll_cons_mk (Below.trod laidOut (by kernel_rfl) (of_decide_eq_true (by kernel_rfl)) k1 RT lt1) trodAll_mk0)), rfl, RT.frame _, fun h => by cases h⟩
theorem agi : Rows.DeskDoesUptoSaid :=
 OpenClaim.holds_of_cond 3 Tryz.f3 rfl rfl rfl rfl rfl rfl rfl ⟨rfl, rfl, rfl, rfl, rfl⟩ rfl rfl rfl rfl rfl (by kernel_rfl) Tryz.func3 (by kernel_rfl)
  (of_decide_eq_true (by kernel_rfl)) (by unfold Func.isWrapper; first | (rw [if_pos (by decide +kernel)]; kernel_rfl) | (rw [if_neg (by decide +kernel)]; exact ⟨rfl, rfl⟩))
  (fun os started H enc _ F => by rw [OpenClaim.pre_eq_preRow]; exact lifted os started H enc F)
theorem holds : Rows.DeskDoesUptoCardSaid :=
 Claim7.holds_tied_plain_at .later [] [.data, .data, .data, .sentinel, .sentinel, .data, .data] true (true, "7d60f71eafe73aada601241331e39234a7a0da538b9ab600d1c62561b26b458e") true
  agi (fun _ h => by cases h) (by kernel_rfl) (fun _ h => by cases h) deskDoesUpto_row_tie rfl ⟨rfl, rfl⟩ (by kernel_rfl) rfl
  (fun f fn hf tu => by
   obtain rfl : f = 3 := Option.some.inj ((show Tryz.prog.funcNamed "overwinter/overwinterlaw.DeskDoes" = some 3 by kernel_rfl).symm.trans hf) |>.symm
   obtain rfl : fn = Tryz.f3 := (Option.some.inj (Tryz.func3.symm.trans tu)).symm
   exact ⟨by kernel_rfl, fun j t ht => by
    rw [Tryz.params3] at ht
    have hm : t ∈ [22, 22] := by simpa using Array.mem_of_getElem? ht
    have kJ : ([22, 22].all fun u => !Tryz.prog.wantsStandIn u) = true := by kernel_rfl
    exact (show Tryz.prog.wantsStandIn t = false by simpa using List.all_eq_true.1 kJ t hm)⟩)
  (by kernel_rfl)
end Go.Proofs.YtoigoojdbpbhoagGreatDoor
