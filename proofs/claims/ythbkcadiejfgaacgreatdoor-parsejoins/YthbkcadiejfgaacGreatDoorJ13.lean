/- Several texts in one: TkE, PtC. -/
import Derived.Test.YthbkcadiejfgaacGreatDoorJ06
import Derived.Test.YthbkcadiejfgaacGreatDoorJ10
import Derived.Test.YthbkcadiejfgaacGreatDoorJ12
/- Contract of the document's Scan. -/
namespace Go.Proofs.YthbkcadiejfgaacGreatDoor
set_option maxRecDepth 20000
set_option maxHeartbeats 4000000
namespace E
open Go.Proofs

theorem built_rtok2 (a : Int) (s : ByteArray) : Tryz.prog.built 85 [(0, .int .i64 a), (1, .string s)] = some [Value.int .i64 a, .string s, .bool false, .int .i64 0].toArray := by kernel_rfl
theorem built_rtok4 (a : Int) (s : ByteArray) (v : Int) : Tryz.prog.built 85 [(0, .int .i64 a), (1, .string s), (2, .bool true), (3, .int .i64 v)] = some [Value.int .i64 a, .string s, .bool true, .int .i64 v].toArray := by kernel_rfl
theorem slice_rtok (a b c d : Value) : sliceCells Tryz.prog 48 1 [(0, .agg #[a, b, c, d])] = some (85, #[a, b, c, d]) := by kernel_rfl

theorem cut_tok {l : List UInt8} {i : Nat} {c : UInt8} {r t : List UInt8} {q : Bool} {z : Int} (hd : l.drop i = c :: r) (h : bit c r = .tok t q z) : (l.drop i).take (i + t.length - i) = t := by
  obtain ⟨u, s, rfl, rfl, _⟩ := bit_tok h
  rw [hd, Nat.add_sub_cancel_left, List.length_cons, List.take_succ_cons, List.take_left]

theorem faultR_ret (a b : Int) (w : World) : Ret Tryz.prog 15 [.int .i64 a, .int .i64 b] w fun r w' => r = .agg #[.int .i64 a, .int .i64 b] ∧ Keep [] w w' := by
  refine ret_of 8 Tryz.func15 rfl rfl (by simp) ?_
  (repeat (first | refine pl_pure hT rfl rfl rfl ?_ | refine pl_nil ?_ | refine rn_seq ?_ | refine rn_plain ?_ | refine rn_block ?_ | refine rn_inBlock ?_ | refine rn_skip ?_ | refine rn_true rfl ?_ | refine rn_false rfl ?_ | refine rn_exit rfl ?_ | refine pl_not rfl rfl ?_))
  refine pl_op rfl rfl (opTo_allocN _ rfl zero_fault ?_)
  intro w1 c hc hs1 hk1 hb1
  (repeat (first | refine pl_pure hT rfl rfl rfl ?_ | refine pl_nil ?_ | refine rn_seq ?_ | refine rn_plain ?_ | refine rn_block ?_ | refine rn_inBlock ?_ | refine rn_skip ?_ | refine rn_true rfl ?_ | refine rn_false rfl ?_ | refine rn_exit rfl ?_ | refine pl_not rfl rfl ?_))
  refine pl_val _ rfl rfl (val_build _ rfl rfl (built_fault a b) w1) ?_
  refine pl_op rfl rfl (opTo_storeN [.int .i64 a, .int .i64 b] rfl rfl rfl rfl size_fault hb1 (by simp) (one_fault _ _) ?_)
  intro w2 hs2 hk2 hb2
  rw [splice_whole (by rfl)] at hb2
  (repeat (first | refine pl_pure hT rfl rfl rfl ?_ | refine pl_nil ?_ | refine rn_seq ?_ | refine rn_plain ?_ | refine rn_block ?_ | refine rn_inBlock ?_ | refine rn_skip ?_ | refine rn_true rfl ?_ | refine rn_false rfl ?_ | refine rn_exit rfl ?_ | refine pl_not rfl rfl ?_))
  exact rn_ret Tryz.func15 (.inr (.inr (.inl ⟨_, _, _, rfl, rfl, blk_loadVar hT hb2 rfl⟩))) ⟨rfl, hk1.trB hk2 (by omega)⟩

theorem scanR_ret (l : List UInt8) (hl : l.length ≤ 1000000) {w : World} (hw : Lw w) : Ret Tryz.prog 19 [.string (str l)] w fun x w' =>
    ∃ v, x = .tuple #[v, .agg #[.int .i64 (faultOf l).1, .int .i64 (faultOf l).2]] ∧ Own w' w.heap.size 85 4 v (toksOf l).length ((toksOf l).flatMap tokL) ∧ Keep [] w w' := by
  refine ret_of 124 Tryz.func19 rfl rfl (by simp) ?_
  (repeat (first | refine pl_pure hT rfl rfl rfl ?_ | refine pl_nil ?_ | refine rn_seq ?_ | refine rn_plain ?_ | refine rn_block ?_ | refine rn_inBlock ?_ | refine rn_skip ?_ | refine rn_true rfl ?_ | refine rn_false rfl ?_ | refine rn_exit rfl ?_ | refine pl_not rfl rfl ?_))
  refine pl_op rfl rfl (opTo_allocN _ rfl zero_fault ?_)
  intro w1 b hb0 hs1 hk1 hb1
  (repeat (first | refine pl_pure hT rfl rfl rfl ?_ | refine pl_nil ?_ | refine rn_seq ?_ | refine rn_plain ?_ | refine rn_block ?_ | refine rn_inBlock ?_ | refine rn_skip ?_ | refine rn_true rfl ?_ | refine rn_false rfl ?_ | refine rn_exit rfl ?_ | refine pl_not rfl rfl ?_))
  refine pl_val _ rfl rfl (val_len l (by decide +kernel) rfl rfl w1) ?_
  by_cases hgt : 6000 < l.length
  · refine pl_yes rfl rfl rfl rfl rfl (by first | (simp only [cmpP]; omega) | (simp [cmpP]; done) | (simp [cmpP]; omega)) ?_
    (repeat (first | refine pl_pure hT rfl rfl rfl ?_ | refine pl_nil ?_ | refine rn_seq ?_ | refine rn_plain ?_ | refine rn_block ?_ | refine rn_inBlock ?_ | refine rn_skip ?_ | refine rn_true rfl ?_ | refine rn_false rfl ?_ | refine rn_exit rfl ?_ | refine pl_not rfl rfl ?_))
    refine pl_op rfl rfl (opTo_call (fst := []) (cap := []) rfl rfl rfl rfl (by decide +kernel) ((faultR_ret 3 6000 w1).mono ?_))
    rintro x w2 ⟨rfl, hk2⟩
    have hb2 := hk2.blk hb1 (by simp)
    (repeat (first | refine pl_pure hT rfl rfl rfl ?_ | refine pl_nil ?_ | refine rn_seq ?_ | refine rn_plain ?_ | refine rn_block ?_ | refine rn_inBlock ?_ | refine rn_skip ?_ | refine rn_true rfl ?_ | refine rn_false rfl ?_ | refine rn_exit rfl ?_ | refine pl_not rfl rfl ?_))
    refine pl_op rfl rfl (opTo_storeN [.int .i64 3, .int .i64 6000] rfl rfl rfl rfl size_fault hb2 (by simp) (one_fault _ _) ?_)
    intro w3 hs3 hk3 hb3
    rw [splice_whole (by rfl)] at hb3
    (repeat (first | refine pl_pure hT rfl rfl rfl ?_ | refine pl_nil ?_ | refine rn_seq ?_ | refine rn_plain ?_ | refine rn_block ?_ | refine rn_inBlock ?_ | refine rn_skip ?_ | refine rn_true rfl ?_ | refine rn_false rfl ?_ | refine rn_exit rfl ?_ | refine pl_not rfl rfl ?_))
    refine rn_retTC Tryz.func19 rfl rfl rfl (blk_loadVar hT hb3 rfl) ⟨.slice none 0 0, ?_, ?_, (hk1.tr hk2).trB hk3 (by omega)⟩
    · unfold faultOf
      rw [if_pos hgt]
    · unfold toksOf
      rw [if_pos hgt]
      exact Own.nil _ _ _ _
  refine pl_no rfl rfl rfl rfl rfl rfl (by first | (simp only [cmpP]; omega) | (simp [cmpP]; done) | (simp [cmpP]; omega)) ?_
  (repeat (first | refine pl_pure hT rfl rfl rfl ?_ | refine pl_nil ?_ | refine rn_seq ?_ | refine rn_plain ?_ | refine rn_block ?_ | refine rn_inBlock ?_ | refine rn_skip ?_ | refine rn_true rfl ?_ | refine rn_false rfl ?_ | refine rn_exit rfl ?_ | refine pl_not rfl rfl ?_))
  refine rn_ind (fun m σ w' => ∃ (i : Nat) (acc : List Tok) (v : Value), i ≤ l.length ∧ m = l.length - i ∧ σ = [(0, .string (str l)), (3, .pointer (some ⟨b, 0, none⟩)), (4, v), (5, .int .i64 (i : Nat))] ∧ acc.length ≤ i ∧
    putT acc (toks l.length i (l.drop i)) = scanOf l ∧ Own w' w.heap.size 85 4 v acc.length (acc.flatMap tokL) ∧ Blk w' b [.int .i64 0, .int .i64 0] 28 ∧ Keep [] w w') l.length _ ?_
    ⟨0, [], _, by omega, by omega, rfl, by simp, by rw [putT_nil]; rfl, Own.nil _ _ _ _, hb1, hk1⟩ ?_
  · exact ⟨rfl, rfl, rfl, rfl, trivial⟩
  rintro m σ w2 ih ⟨i, acc, v, hi, rfl, rfl, hacc, hput, hown, hb2, hk2⟩
  (repeat (first | refine pl_pure hT rfl rfl rfl ?_ | refine pl_nil ?_ | refine rn_seq ?_ | refine rn_plain ?_ | refine rn_block ?_ | refine rn_inBlock ?_ | refine rn_skip ?_ | refine rn_true rfl ?_ | refine rn_false rfl ?_ | refine rn_exit rfl ?_ | refine pl_not rfl rfl ?_))
  refine pl_val _ rfl rfl (val_len l (by decide +kernel) rfl rfl w2) ?_
  by_cases hlt : i < l.length
  · obtain ⟨c, r, hdrop, hget, hdr⟩ := drop_at hlt
    have hlen : (c :: r).length ≤ l.length := by rw [← hdrop, List.length_drop]; omega
    have hlen2 : (c :: r).length = l.length - i := by rw [← hdrop, List.length_drop]
    simp only [List.length_cons] at hlen2
    refine pl_yes rfl rfl rfl rfl rfl (by first | (simp only [cmpP]; omega) | (simp [cmpP]; done) | (simp [cmpP]; omega)) ?_
    (repeat (first | refine pl_pure hT rfl rfl rfl ?_ | refine pl_nil ?_ | refine rn_seq ?_ | refine rn_plain ?_ | refine rn_block ?_ | refine rn_inBlock ?_ | refine rn_skip ?_ | refine rn_true rfl ?_ | refine rn_false rfl ?_ | refine rn_exit rfl ?_ | refine pl_not rfl rfl ?_))
    refine pl_val _ rfl rfl (val_byte l i c (by decide +kernel) rfl rfl rfl rfl hget w2) ?_
    (repeat (first | refine pl_pure hT rfl rfl rfl ?_ | refine pl_nil ?_ | refine rn_seq ?_ | refine rn_plain ?_ | refine rn_block ?_ | refine rn_inBlock ?_ | refine rn_skip ?_ | refine rn_true rfl ?_ | refine rn_false rfl ?_ | refine rn_exit rfl ?_ | refine pl_not rfl rfl ?_))
    refine pl_num (((i + 1 : Nat) : Int)) rfl rfl rfl rfl rfl (by simp only [ariP]; omega) ?_
    by_cases hbl : blankB c = true
    · have hn := hbl
      rw [blank_n] at hn
      simp only [Bool.or_eq_true, decide_eq_true_eq] at hn
      rcases hn with ((hn | hn) | hn) | hn
      all_goals
        (repeat (first | refine pl_pure hT rfl rfl rfl ?_ | refine pl_nil ?_ | refine rn_seq ?_ | refine rn_plain ?_ | refine rn_block ?_ | refine rn_inBlock ?_ | refine rn_skip ?_ | refine rn_true rfl ?_ | refine rn_false rfl ?_ | refine rn_exit rfl ?_ | refine pl_not rfl rfl ?_ | refine pl_val _ rfl rfl (val_load1 hT rfl rfl rfl (Blk.cell (by assumption) (by rfl))) ?_ | refine pl_yes rfl rfl rfl rfl rfl (by first | (simp only [cmpP]; omega) | (simp [cmpP]; done) | (simp [cmpP]; omega)) ?_ | refine pl_no rfl rfl rfl rfl rfl rfl (by first | (simp only [cmpP]; omega) | (simp [cmpP]; done) | (simp [cmpP]; omega)) ?_))
        refine rn_sub ?_ (ih _ _ _ ?_ ⟨i + 1, acc, v, hlt, rfl, rfl, by omega, ?_, hown, hb2, hk2⟩)
        · exact ⟨rfl, rfl, rfl, rfl, trivial⟩
        · omega
        · rw [hdrop, toks_skip (bit_blank c r hbl) hlen] at hput
          rw [hdr]
          exact hput
    have hbl' : blankB c = false := by simpa using hbl
    have hn : c.toNat ≠ 32 ∧ c.toNat ≠ 9 ∧ c.toNat ≠ 10 ∧ c.toNat ≠ 13 := by
      have h := hbl'
      rw [blank_n] at h
      simp only [Bool.or_eq_false_iff, decide_eq_false_iff_not] at h
      exact ⟨h.1.1.1, h.1.1.2, h.1.2, h.2⟩
    obtain ⟨hn1, hn2, hn3, hn4⟩ := hn
    have hwl := while_le letB r
    have hwd := while_le dig r
    by_cases hp : parenB c = true
    · have hbit := bit_paren (r := r) hbl' hp
      rw [paren_n, Bool.or_eq_true, decide_eq_true_eq, decide_eq_true_eq] at hp
      rcases hp with hp | hp
      all_goals
        (repeat (first | refine pl_pure hT rfl rfl rfl ?_ | refine pl_nil ?_ | refine rn_seq ?_ | refine rn_plain ?_ | refine rn_block ?_ | refine rn_inBlock ?_ | refine rn_skip ?_ | refine rn_true rfl ?_ | refine rn_false rfl ?_ | refine rn_exit rfl ?_ | refine pl_not rfl rfl ?_ | refine pl_val _ rfl rfl (val_load1 hT rfl rfl rfl (Blk.cell (by assumption) (by rfl))) ?_ | refine pl_yes rfl rfl rfl rfl rfl (by first | (simp only [cmpP]; omega) | (simp [cmpP]; done) | (simp [cmpP]; omega)) ?_ | refine pl_no rfl rfl rfl rfl rfl rfl (by first | (simp only [cmpP]; omega) | (simp [cmpP]; done) | (simp [cmpP]; omega)) ?_))
        have htl := bit_len hbit
        have hadd : i + ([c]).length ≤ l.length := by
          have := htl.2
          simp only [List.length_cons] at this ⊢
          omega
        refine pl_val _ rfl rfl (val_cut l i (i + ([c]).length) (by decide +kernel) rfl rfl rfl rfl rfl rfl (by omega) hadd w2) ?_
        rw [cut_tok hdrop hbit]
        (repeat (first | refine pl_pure hT rfl rfl rfl ?_ | refine pl_nil ?_ | refine rn_seq ?_ | refine rn_plain ?_ | refine rn_block ?_ | refine rn_inBlock ?_ | refine rn_skip ?_ | refine rn_true rfl ?_ | refine rn_false rfl ?_ | refine rn_exit rfl ?_ | refine pl_not rfl rfl ?_))
        refine pl_val _ rfl rfl (val_build _ rfl rfl (built_rtok2 ((i : Nat) : Int) (str ([c]))) w2) ?_
        refine pl_op rfl rfl (opTo_sliceN _ _ rfl rfl (slice_rtok _ _ _ _) ?_)
        intro w8 g8 hg8 hs8 hk8 hb8
        have hown8 := (hown).keep hk8 (by simp)
        have hF8 := hk8.blk hb2 (by simp)
        have hk08 := (hk2).tr hk8
        refine pl_op rfl rfl (opTo_app w.heap.size 85 4 40 (acc.flatMap tokL) (tokC ((i : Nat) : Int) ([c]) false 0) rfl rfl rfl (by decide +kernel) hown8 (hb8.range (by rfl)) rfl (tokC_one _ _ _ _) (by decide) (by simp only [maxLen]; omega) (by omega) hk08.size ?_)
        intro g9 cap9 w9 hown9 hor9
        have hk09 := app_tok hk08 hown8 hor9
        have hF9 := app_blk hF8 (own_ne hown8 hF8 (by decide)) hor9
        (repeat (first | refine pl_pure hT rfl rfl rfl ?_ | refine pl_nil ?_ | refine rn_seq ?_ | refine rn_plain ?_ | refine rn_block ?_ | refine rn_inBlock ?_ | refine rn_skip ?_ | refine rn_true rfl ?_ | refine rn_false rfl ?_ | refine rn_exit rfl ?_ | refine pl_not rfl rfl ?_))
        refine rn_sub ?_ (ih _ _ _ ?_ ⟨i + ([c]).length, acc ++ [⟨i, [c], false, 0⟩], .slice (some ⟨g9, 0, none⟩) (acc.length + 1) cap9, hadd, rfl, rfl, ?_, ?_, ?_, hF9, hk09⟩)
        · exact ⟨rfl, rfl, rfl, rfl, trivial⟩
        · have := htl.1
          omega
        · have := htl.1
          simp only [List.length_append, List.length_cons, List.length_nil] at this ⊢
          omega
        · rw [hdrop, putT_tok acc hbit hlen, ← hdrop, List.drop_drop] at hput
          exact hput
        · have e1 : (acc ++ [(⟨i, [c], false, 0⟩ : Tok)]).length = acc.length + 1 := by simp
          have e2 : (acc ++ [(⟨i, [c], false, 0⟩ : Tok)]).flatMap tokL = acc.flatMap tokL ++ tokC ((i : Nat) : Int) ([c]) false 0 := by
            rw [List.flatMap_append]
            rfl
          rw [e1, e2]
          exact hown9
    have hp' : parenB c = false := by simpa using hp
    have hpn : c.toNat ≠ 40 ∧ c.toNat ≠ 41 := by
      have h := hp'
      rw [paren_n] at h
      simpa using h
    obtain ⟨hp1, hp2⟩ := hpn
    (repeat (first | refine pl_pure hT rfl rfl rfl ?_ | refine pl_nil ?_ | refine rn_seq ?_ | refine rn_plain ?_ | refine rn_block ?_ | refine rn_inBlock ?_ | refine rn_skip ?_ | refine rn_true rfl ?_ | refine rn_false rfl ?_ | refine rn_exit rfl ?_ | refine pl_not rfl rfl ?_ | refine pl_val _ rfl rfl (val_load1 hT rfl rfl rfl (Blk.cell (by assumption) (by rfl))) ?_ | refine pl_yes rfl rfl rfl rfl rfl (by first | (simp only [cmpP]; omega) | (simp [cmpP]; done) | (simp [cmpP]; omega)) ?_ | refine pl_no rfl rfl rfl rfl rfl rfl (by first | (simp only [cmpP]; omega) | (simp [cmpP]; done) | (simp [cmpP]; omega)) ?_))
    refine pl_op rfl rfl (opTo_call (fst := []) (cap := []) rfl rfl rfl rfl (by decide +kernel) ((letterR_ret c w2).mono ?_))
    rintro x w3 ⟨rfl, rfl⟩
    cases hlet : letB c with
    | true =>
      have hbit := bit_word (r := r) hbl' hp' hlet
      (repeat (first | refine pl_pure hT rfl rfl rfl ?_ | refine pl_not rfl rfl ?_ | refine pl_nil ?_ | refine rn_inBlock ?_ | refine rn_skip ?_ | refine rn_true rfl ?_ | refine rn_false rfl ?_ | refine rn_exit rfl ?_))
      refine rn_seq ?_
      refine rn_with (fun σ' w' => w' = w3 ∧ ∃ j : Nat, j = i + (c :: r.takeWhile letB).length ∧ Sub [(0, .string (str l)), (3, .pointer (some ⟨b, 0, none⟩)), (4, v), (5, .int .i64 (i : Nat)), (7, .int .i64 (j : Nat))] σ') ?_ ?_
      rotate_left
      · intro fin
        refine rn_block ?_
        refine rn_ind (fun m σ w' => ∃ j : Nat, i + 1 ≤ j ∧ j ≤ l.length ∧ m = l.length - j ∧ σ = [(0, .string (str l)), (3, .pointer (some ⟨b, 0, none⟩)), (4, v), (5, .int .i64 (i : Nat)), (7, .int .i64 (j : Nat))] ∧ i + 1 + (r.takeWhile letB).length = j + ((l.drop j).takeWhile letB).length ∧ w' = w3) (l.length - (i + 1)) _ ?_
          ⟨i + 1, by omega, by omega, rfl, rfl, by rw [hdr], rfl⟩ ?_
        · exact ⟨rfl, rfl, rfl, rfl, rfl, trivial⟩
        rintro m σ w9 ih2 ⟨j, hj1, hj2, rfl, rfl, ht, rfl⟩
        (repeat (first | refine pl_pure hT rfl rfl rfl ?_ | refine pl_nil ?_ | refine rn_seq ?_ | refine rn_plain ?_ | refine rn_block ?_ | refine rn_inBlock ?_ | refine rn_skip ?_ | refine rn_true rfl ?_ | refine rn_false rfl ?_ | refine rn_exit rfl ?_ | refine pl_not rfl rfl ?_))
        refine pl_val _ rfl rfl (val_len l (by decide +kernel) rfl rfl w9) ?_
        by_cases hjl : j < l.length
        · refine pl_yes rfl rfl rfl rfl rfl (by first | (simp only [cmpP]; omega) | (simp [cmpP]; done) | (simp [cmpP]; omega)) ?_
          (repeat (first | refine pl_pure hT rfl rfl rfl ?_ | refine pl_nil ?_ | refine rn_seq ?_ | refine rn_plain ?_ | refine rn_block ?_ | refine rn_inBlock ?_ | refine rn_skip ?_ | refine rn_true rfl ?_ | refine rn_false rfl ?_ | refine rn_exit rfl ?_ | refine pl_not rfl rfl ?_))
          refine pl_val _ rfl rfl (val_byte l j l[j] (by decide +kernel) rfl rfl rfl rfl (List.getElem?_eq_getElem hjl) w9) ?_
          refine pl_op rfl rfl (opTo_call (fst := []) (cap := []) rfl rfl rfl rfl (by decide +kernel) ((letterR_ret l[j] w9).mono ?_))
          rintro x w10 ⟨rfl, rfl⟩
          rw [take_step hjl] at ht
          cases hpb : letB l[j] with
          | true =>
            rw [hpb, if_pos rfl, List.length_cons] at ht
            (repeat (first | refine pl_pure hT rfl rfl rfl ?_ | refine pl_nil ?_ | refine rn_seq ?_ | refine rn_plain ?_ | refine rn_block ?_ | refine rn_inBlock ?_ | refine rn_skip ?_ | refine rn_true rfl ?_ | refine rn_false rfl ?_ | refine rn_exit rfl ?_ | refine pl_not rfl rfl ?_))
            refine pl_num (((j + 1 : Nat) : Int)) rfl rfl rfl rfl rfl (by simp only [ariP]; omega) ?_
            (repeat (first | refine pl_pure hT rfl rfl rfl ?_ | refine pl_nil ?_ | refine rn_seq ?_ | refine rn_plain ?_ | refine rn_block ?_ | refine rn_inBlock ?_ | refine rn_skip ?_ | refine rn_true rfl ?_ | refine rn_false rfl ?_ | refine rn_exit rfl ?_ | refine pl_not rfl rfl ?_))
            refine rn_sub ?_ (ih2 _ _ _ ?_ ⟨j + 1, by omega, hjl, rfl, rfl, by omega, rfl⟩)
            · exact ⟨rfl, rfl, rfl, rfl, rfl, trivial⟩
            · omega
          | false =>
            rw [hpb, if_neg (by decide), List.length_nil] at ht
            (repeat (first | refine pl_pure hT rfl rfl rfl ?_ | refine pl_not rfl rfl ?_ | refine pl_nil ?_ | refine rn_inBlock ?_ | refine rn_skip ?_ | refine rn_true rfl ?_ | refine rn_false rfl ?_ | refine rn_exit rfl ?_))
            have ej : j = i + (c :: r.takeWhile letB).length := by simp only [List.length_cons]; omega
            exact fin _ _ ⟨rfl, j, ej, rfl, rfl, rfl, rfl, rfl, trivial⟩
        · refine pl_no rfl rfl rfl rfl rfl rfl (by first | (simp only [cmpP]; omega) | (simp [cmpP]; done) | (simp [cmpP]; omega)) ?_
          (repeat (first | refine pl_pure hT rfl rfl rfl ?_ | refine pl_not rfl rfl ?_ | refine pl_nil ?_ | refine rn_inBlock ?_ | refine rn_skip ?_ | refine rn_true rfl ?_ | refine rn_false rfl ?_ | refine rn_exit rfl ?_))
          have e : j = l.length := by omega
          rw [e, List.drop_length] at ht
          have ej : j = i + (c :: r.takeWhile letB).length := by
            simp only [List.length_cons]
            simp at ht
            omega
          exact fin _ _ ⟨rfl, j, ej, rfl, rfl, rfl, rfl, rfl, trivial⟩
      rintro σ' w5 ⟨rfl, j, rfl, hsub⟩
      refine rn_sub hsub ?_
      (repeat (first | refine pl_pure hT rfl rfl rfl ?_ | refine pl_nil ?_ | refine rn_seq ?_ | refine rn_plain ?_ | refine rn_block ?_ | refine rn_inBlock ?_ | refine rn_skip ?_ | refine rn_true rfl ?_ | refine rn_false rfl ?_ | refine rn_exit rfl ?_ | refine pl_not rfl rfl ?_))
      have htl := bit_len hbit
      have hadd : i + (c :: r.takeWhile letB).length ≤ l.length := by
        have := htl.2
        simp only [List.length_cons] at this ⊢
        omega
      refine pl_val _ rfl rfl (val_cut l i (i + (c :: r.takeWhile letB).length) (by decide +kernel) rfl rfl rfl rfl rfl rfl (by omega) hadd w5) ?_
      rw [cut_tok hdrop hbit]
      (repeat (first | refine pl_pure hT rfl rfl rfl ?_ | refine pl_nil ?_ | refine rn_seq ?_ | refine rn_plain ?_ | refine rn_block ?_ | refine rn_inBlock ?_ | refine rn_skip ?_ | refine rn_true rfl ?_ | refine rn_false rfl ?_ | refine rn_exit rfl ?_ | refine pl_not rfl rfl ?_))
      refine pl_val _ rfl rfl (val_build _ rfl rfl (built_rtok2 ((i : Nat) : Int) (str (c :: r.takeWhile letB))) w5) ?_
      refine pl_op rfl rfl (opTo_sliceN _ _ rfl rfl (slice_rtok _ _ _ _) ?_)
      intro w8 g8 hg8 hs8 hk8 hb8
      have hown8 := (hown).keep hk8 (by simp)
      have hF8 := hk8.blk hb2 (by simp)
      have hk08 := (hk2).tr hk8
      refine pl_op rfl rfl (opTo_app w.heap.size 85 4 40 (acc.flatMap tokL) (tokC ((i : Nat) : Int) (c :: r.takeWhile letB) false 0) rfl rfl rfl (by decide +kernel) hown8 (hb8.range (by rfl)) rfl (tokC_one _ _ _ _) (by decide) (by simp only [maxLen]; omega) (by omega) hk08.size ?_)
      intro g9 cap9 w9 hown9 hor9
      have hk09 := app_tok hk08 hown8 hor9
      have hF9 := app_blk hF8 (own_ne hown8 hF8 (by decide)) hor9
      (repeat (first | refine pl_pure hT rfl rfl rfl ?_ | refine pl_nil ?_ | refine rn_seq ?_ | refine rn_plain ?_ | refine rn_block ?_ | refine rn_inBlock ?_ | refine rn_skip ?_ | refine rn_true rfl ?_ | refine rn_false rfl ?_ | refine rn_exit rfl ?_ | refine pl_not rfl rfl ?_))
      refine rn_sub ?_ (ih _ _ _ ?_ ⟨i + (c :: r.takeWhile letB).length, acc ++ [⟨i, c :: r.takeWhile letB, false, 0⟩], .slice (some ⟨g9, 0, none⟩) (acc.length + 1) cap9, hadd, rfl, rfl, ?_, ?_, ?_, hF9, hk09⟩)
      · exact ⟨rfl, rfl, rfl, rfl, trivial⟩
      · have := htl.1
        omega
      · have := htl.1
        simp only [List.length_append, List.length_cons, List.length_nil] at this ⊢
        omega
      · rw [hdrop, putT_tok acc hbit hlen, ← hdrop, List.drop_drop] at hput
        exact hput
      · have e1 : (acc ++ [(⟨i, c :: r.takeWhile letB, false, 0⟩ : Tok)]).length = acc.length + 1 := by simp
        have e2 : (acc ++ [(⟨i, c :: r.takeWhile letB, false, 0⟩ : Tok)]).flatMap tokL = acc.flatMap tokL ++ tokC ((i : Nat) : Int) (c :: r.takeWhile letB) false 0 := by
          rw [List.flatMap_append]
          rfl
        rw [e1, e2]
        exact hown9
    | false =>
      (repeat (first | refine pl_pure hT rfl rfl rfl ?_ | refine pl_nil ?_ | refine rn_seq ?_ | refine rn_plain ?_ | refine rn_block ?_ | refine rn_inBlock ?_ | refine rn_skip ?_ | refine rn_true rfl ?_ | refine rn_false rfl ?_ | refine rn_exit rfl ?_ | refine pl_not rfl rfl ?_))
      refine pl_op rfl rfl (opTo_call (fst := []) (cap := []) rfl rfl rfl rfl (by decide +kernel) ((digitR_ret c w3).mono ?_))
      rintro x w4 ⟨rfl, rfl⟩
      by_cases hd : (dig c || c == 45) = true
      · have hbn := bit_num (r := r) hbl' hp' hlet hd
        have hd2 : dig c = true ∨ (dig c = false ∧ c.toNat = 45) := by
          rw [dash_n] at hd
          cases h : dig c with
          | true => exact .inl rfl
          | false => rw [h] at hd; exact .inr ⟨rfl, by simpa using hd⟩
        rcases hd2 with hdc | ⟨hdc, hdash⟩
        all_goals
          rw [hdc]
          (repeat (first | refine pl_pure hT rfl rfl rfl ?_ | refine pl_nil ?_ | refine rn_inBlock ?_ | refine rn_skip ?_ | refine rn_true rfl ?_ | refine rn_false rfl ?_ | refine rn_exit rfl ?_ | refine pl_not rfl rfl ?_ | refine pl_val _ rfl rfl (val_load1 hT rfl rfl rfl (Blk.cell (by assumption) (by rfl))) ?_ | refine pl_yes rfl rfl rfl rfl rfl (by first | (simp only [cmpP]; omega) | (simp [cmpP]; done) | (simp [cmpP]; omega)) ?_ | refine pl_no rfl rfl rfl rfl rfl rfl (by first | (simp only [cmpP]; omega) | (simp [cmpP]; done) | (simp [cmpP]; omega)) ?_))
          refine rn_seq ?_
          refine rn_with (fun σ' w' => w' = w4 ∧ ∃ j : Nat, j = i + (c :: r.takeWhile dig).length ∧ Sub [(0, .string (str l)), (3, .pointer (some ⟨b, 0, none⟩)), (4, v), (5, .int .i64 (i : Nat)), (7, .int .i64 (j : Nat))] σ') ?_ ?_
          rotate_left
          · intro fin
            refine rn_block ?_
            refine rn_ind (fun m σ w' => ∃ j : Nat, i + 1 ≤ j ∧ j ≤ l.length ∧ m = l.length - j ∧ σ = [(0, .string (str l)), (3, .pointer (some ⟨b, 0, none⟩)), (4, v), (5, .int .i64 (i : Nat)), (7, .int .i64 (j : Nat))] ∧ i + 1 + (r.takeWhile dig).length = j + ((l.drop j).takeWhile dig).length ∧ w' = w4) (l.length - (i + 1)) _ ?_
              ⟨i + 1, by omega, by omega, rfl, rfl, by rw [hdr], rfl⟩ ?_
            · exact ⟨rfl, rfl, rfl, rfl, rfl, trivial⟩
            rintro m σ w9 ih2 ⟨j, hj1, hj2, rfl, rfl, ht, rfl⟩
            (repeat (first | refine pl_pure hT rfl rfl rfl ?_ | refine pl_nil ?_ | refine rn_seq ?_ | refine rn_plain ?_ | refine rn_block ?_ | refine rn_inBlock ?_ | refine rn_skip ?_ | refine rn_true rfl ?_ | refine rn_false rfl ?_ | refine rn_exit rfl ?_ | refine pl_not rfl rfl ?_))
            refine pl_val _ rfl rfl (val_len l (by decide +kernel) rfl rfl w9) ?_
            by_cases hjl : j < l.length
            · refine pl_yes rfl rfl rfl rfl rfl (by first | (simp only [cmpP]; omega) | (simp [cmpP]; done) | (simp [cmpP]; omega)) ?_
              (repeat (first | refine pl_pure hT rfl rfl rfl ?_ | refine pl_nil ?_ | refine rn_seq ?_ | refine rn_plain ?_ | refine rn_block ?_ | refine rn_inBlock ?_ | refine rn_skip ?_ | refine rn_true rfl ?_ | refine rn_false rfl ?_ | refine rn_exit rfl ?_ | refine pl_not rfl rfl ?_))
              refine pl_val _ rfl rfl (val_byte l j l[j] (by decide +kernel) rfl rfl rfl rfl (List.getElem?_eq_getElem hjl) w9) ?_
              refine pl_op rfl rfl (opTo_call (fst := []) (cap := []) rfl rfl rfl rfl (by decide +kernel) ((digitR_ret l[j] w9).mono ?_))
              rintro x w10 ⟨rfl, rfl⟩
              rw [take_step hjl] at ht
              cases hpb : dig l[j] with
              | true =>
                rw [hpb, if_pos rfl, List.length_cons] at ht
                (repeat (first | refine pl_pure hT rfl rfl rfl ?_ | refine pl_nil ?_ | refine rn_seq ?_ | refine rn_plain ?_ | refine rn_block ?_ | refine rn_inBlock ?_ | refine rn_skip ?_ | refine rn_true rfl ?_ | refine rn_false rfl ?_ | refine rn_exit rfl ?_ | refine pl_not rfl rfl ?_))
                refine pl_num (((j + 1 : Nat) : Int)) rfl rfl rfl rfl rfl (by simp only [ariP]; omega) ?_
                (repeat (first | refine pl_pure hT rfl rfl rfl ?_ | refine pl_nil ?_ | refine rn_seq ?_ | refine rn_plain ?_ | refine rn_block ?_ | refine rn_inBlock ?_ | refine rn_skip ?_ | refine rn_true rfl ?_ | refine rn_false rfl ?_ | refine rn_exit rfl ?_ | refine pl_not rfl rfl ?_))
                refine rn_sub ?_ (ih2 _ _ _ ?_ ⟨j + 1, by omega, hjl, rfl, rfl, by omega, rfl⟩)
                · exact ⟨rfl, rfl, rfl, rfl, rfl, trivial⟩
                · omega
              | false =>
                rw [hpb, if_neg (by decide), List.length_nil] at ht
                (repeat (first | refine pl_pure hT rfl rfl rfl ?_ | refine pl_not rfl rfl ?_ | refine pl_nil ?_ | refine rn_inBlock ?_ | refine rn_skip ?_ | refine rn_true rfl ?_ | refine rn_false rfl ?_ | refine rn_exit rfl ?_))
                have ej : j = i + (c :: r.takeWhile dig).length := by simp only [List.length_cons]; omega
                exact fin _ _ ⟨rfl, j, ej, rfl, rfl, rfl, rfl, rfl, trivial⟩
            · refine pl_no rfl rfl rfl rfl rfl rfl (by first | (simp only [cmpP]; omega) | (simp [cmpP]; done) | (simp [cmpP]; omega)) ?_
              (repeat (first | refine pl_pure hT rfl rfl rfl ?_ | refine pl_not rfl rfl ?_ | refine pl_nil ?_ | refine rn_inBlock ?_ | refine rn_skip ?_ | refine rn_true rfl ?_ | refine rn_false rfl ?_ | refine rn_exit rfl ?_))
              have e : j = l.length := by omega
              rw [e, List.drop_length] at ht
              have ej : j = i + (c :: r.takeWhile dig).length := by
                simp only [List.length_cons]
                simp at ht
                omega
              exact fin _ _ ⟨rfl, j, ej, rfl, rfl, rfl, rfl, rfl, trivial⟩
          rintro σ' w5 ⟨rfl, j, rfl, hsub⟩
          refine rn_sub hsub ?_
          (repeat (first | refine pl_pure hT rfl rfl rfl ?_ | refine pl_nil ?_ | refine rn_seq ?_ | refine rn_plain ?_ | refine rn_block ?_ | refine rn_inBlock ?_ | refine rn_skip ?_ | refine rn_true rfl ?_ | refine rn_false rfl ?_ | refine rn_exit rfl ?_ | refine pl_not rfl rfl ?_))
          refine pl_val _ rfl rfl (val_cut l i (i + (c :: r.takeWhile dig).length) (by decide +kernel) rfl rfl rfl rfl rfl rfl (by omega) (by simp only [List.length_cons]; omega) w5) ?_
          have hcut : (l.drop i).take (i + (c :: r.takeWhile dig).length - i) = c :: r.takeWhile dig := by
            rw [hdrop, Nat.add_sub_cancel_left, List.length_cons, List.take_succ_cons, take_while]
          rw [hcut]
          refine pl_op rfl rfl (opTo_call (fst := []) (cap := []) rfl rfl rfl rfl (by decide +kernel) ((longR_ret (c :: r.takeWhile dig) (by simp only [List.length_cons]; omega) (hw.keep hk2)).mono ?_))
          rintro x w6 ⟨rfl, hk6⟩
          have hb6 := hk6.blk hb2 (by simp)
          have hown6 := hown.keep hk6 (by simp)
          have hk06 := hk2.tr hk6
          unfold longV
          cases hL : longOf (c :: r.takeWhile dig) with
          | none =>
            rw [hL] at hbn
            (repeat (first | refine pl_pure hT rfl rfl rfl ?_ | refine pl_nil ?_ | refine rn_seq ?_ | refine rn_plain ?_ | refine rn_block ?_ | refine rn_inBlock ?_ | refine rn_skip ?_ | refine rn_true rfl ?_ | refine rn_false rfl ?_ | refine rn_exit rfl ?_ | refine pl_not rfl rfl ?_))
            refine pl_op rfl rfl (opTo_call (fst := []) (cap := []) rfl rfl rfl rfl (by decide +kernel) ((faultR_ret 7 ((i : Nat) : Int) w6).mono ?_))
            rintro x w7 ⟨rfl, hk7⟩
            have hb7 := hk7.blk hb6 (by simp)
            (repeat (first | refine pl_pure hT rfl rfl rfl ?_ | refine pl_nil ?_ | refine rn_seq ?_ | refine rn_plain ?_ | refine rn_block ?_ | refine rn_inBlock ?_ | refine rn_skip ?_ | refine rn_true rfl ?_ | refine rn_false rfl ?_ | refine rn_exit rfl ?_ | refine pl_not rfl rfl ?_))
            refine pl_op rfl rfl (opTo_storeN [.int .i64 7, .int .i64 ((i : Nat) : Int)] rfl rfl rfl rfl size_fault hb7 (by simp) (one_fault _ _) ?_)
            intro w8 hs8 hk8 hb8
            rw [splice_whole (by rfl)] at hb8
            (repeat (first | refine pl_pure hT rfl rfl rfl ?_ | refine pl_nil ?_ | refine rn_seq ?_ | refine rn_plain ?_ | refine rn_block ?_ | refine rn_inBlock ?_ | refine rn_skip ?_ | refine rn_true rfl ?_ | refine rn_false rfl ?_ | refine rn_exit rfl ?_ | refine pl_not rfl rfl ?_))
            rw [hdrop, toks_bad hbn hlen] at hput
            obtain ⟨e1, e2⟩ := faultOf_error hgt hput.symm
            refine rn_retTC Tryz.func19 rfl rfl rfl (blk_loadVar hT hb8 rfl) ⟨.slice none 0 0, ?_, ?_, (hk06.tr hk7).trB hk8 (by omega)⟩
            · rw [e1]
            · rw [e2]
              exact Own.nil _ _ _ _
          | some z =>
            rw [hL] at hbn
            have hbit : bit c r = .tok (c :: r.takeWhile dig) true z := hbn
            (repeat (first | refine pl_pure hT rfl rfl rfl ?_ | refine pl_nil ?_ | refine rn_seq ?_ | refine rn_plain ?_ | refine rn_block ?_ | refine rn_inBlock ?_ | refine rn_skip ?_ | refine rn_true rfl ?_ | refine rn_false rfl ?_ | refine rn_exit rfl ?_ | refine pl_not rfl rfl ?_))
            have htl := bit_len hbit
            have hadd : i + (c :: r.takeWhile dig).length ≤ l.length := by
              have := htl.2
              simp only [List.length_cons] at this ⊢
              omega
            refine pl_val _ rfl rfl (val_cut l i (i + (c :: r.takeWhile dig).length) (by decide +kernel) rfl rfl rfl rfl rfl rfl (by omega) hadd w6) ?_
            rw [cut_tok hdrop hbit]
            (repeat (first | refine pl_pure hT rfl rfl rfl ?_ | refine pl_nil ?_ | refine rn_seq ?_ | refine rn_plain ?_ | refine rn_block ?_ | refine rn_inBlock ?_ | refine rn_skip ?_ | refine rn_true rfl ?_ | refine rn_false rfl ?_ | refine rn_exit rfl ?_ | refine pl_not rfl rfl ?_))
            refine pl_val _ rfl rfl (val_build _ rfl rfl (built_rtok4 ((i : Nat) : Int) (str (c :: r.takeWhile dig)) z) w6) ?_
            refine pl_op rfl rfl (opTo_sliceN _ _ rfl rfl (slice_rtok _ _ _ _) ?_)
            intro w8 g8 hg8 hs8 hk8 hb8
            have hown8 := (hown6).keep hk8 (by simp)
            have hF8 := hk8.blk hb6 (by simp)
            have hk08 := (hk06).tr hk8
            refine pl_op rfl rfl (opTo_app w.heap.size 85 4 40 (acc.flatMap tokL) (tokC ((i : Nat) : Int) (c :: r.takeWhile dig) true z) rfl rfl rfl (by decide +kernel) hown8 (hb8.range (by rfl)) rfl (tokC_one _ _ _ _) (by decide) (by simp only [maxLen]; omega) (by omega) hk08.size ?_)
            intro g9 cap9 w9 hown9 hor9
            have hk09 := app_tok hk08 hown8 hor9
            have hF9 := app_blk hF8 (own_ne hown8 hF8 (by decide)) hor9
            (repeat (first | refine pl_pure hT rfl rfl rfl ?_ | refine pl_nil ?_ | refine rn_seq ?_ | refine rn_plain ?_ | refine rn_block ?_ | refine rn_inBlock ?_ | refine rn_skip ?_ | refine rn_true rfl ?_ | refine rn_false rfl ?_ | refine rn_exit rfl ?_ | refine pl_not rfl rfl ?_))
            refine rn_sub ?_ (ih _ _ _ ?_ ⟨i + (c :: r.takeWhile dig).length, acc ++ [⟨i, c :: r.takeWhile dig, true, z⟩], .slice (some ⟨g9, 0, none⟩) (acc.length + 1) cap9, hadd, rfl, rfl, ?_, ?_, ?_, hF9, hk09⟩)
            · exact ⟨rfl, rfl, rfl, rfl, trivial⟩
            · have := htl.1
              omega
            · have := htl.1
              simp only [List.length_append, List.length_cons, List.length_nil] at this ⊢
              omega
            · rw [hdrop, putT_tok acc hbit hlen, ← hdrop, List.drop_drop] at hput
              exact hput
            · have e1 : (acc ++ [(⟨i, c :: r.takeWhile dig, true, z⟩ : Tok)]).length = acc.length + 1 := by simp
              have e2 : (acc ++ [(⟨i, c :: r.takeWhile dig, true, z⟩ : Tok)]).flatMap tokL = acc.flatMap tokL ++ tokC ((i : Nat) : Int) (c :: r.takeWhile dig) true z := by
                rw [List.flatMap_append]
                rfl
              rw [e1, e2]
              exact hown9
      · have hd' : (dig c || c == 45) = false := by simpa using hd
        have hbit := bit_none (r := r) hbl' hp' hlet hd'
        have hdc : dig c = false := by
          cases h : dig c with
          | true => rw [h] at hd'; cases hd'
          | false => rfl
        have hdash : c.toNat ≠ 45 := by
          rw [hdc, dash_n] at hd'
          simpa using hd'
        rw [hdc]
        (repeat (first | refine pl_pure hT rfl rfl rfl ?_ | refine pl_nil ?_ | refine rn_seq ?_ | refine rn_plain ?_ | refine rn_block ?_ | refine rn_inBlock ?_ | refine rn_skip ?_ | refine rn_true rfl ?_ | refine rn_false rfl ?_ | refine rn_exit rfl ?_ | refine pl_not rfl rfl ?_ | refine pl_val _ rfl rfl (val_load1 hT rfl rfl rfl (Blk.cell (by assumption) (by rfl))) ?_ | refine pl_yes rfl rfl rfl rfl rfl (by first | (simp only [cmpP]; omega) | (simp [cmpP]; done) | (simp [cmpP]; omega)) ?_ | refine pl_no rfl rfl rfl rfl rfl rfl (by first | (simp only [cmpP]; omega) | (simp [cmpP]; done) | (simp [cmpP]; omega)) ?_))
        refine pl_op rfl rfl (opTo_call (fst := []) (cap := []) rfl rfl rfl rfl (by decide +kernel) ((faultR_ret 7 ((i : Nat) : Int) w4).mono ?_))
        rintro x w7 ⟨rfl, hk7⟩
        have hb7 := hk7.blk hb2 (by simp)
        (repeat (first | refine pl_pure hT rfl rfl rfl ?_ | refine pl_nil ?_ | refine rn_seq ?_ | refine rn_plain ?_ | refine rn_block ?_ | refine rn_inBlock ?_ | refine rn_skip ?_ | refine rn_true rfl ?_ | refine rn_false rfl ?_ | refine rn_exit rfl ?_ | refine pl_not rfl rfl ?_))
        refine pl_op rfl rfl (opTo_storeN [.int .i64 7, .int .i64 ((i : Nat) : Int)] rfl rfl rfl rfl size_fault hb7 (by simp) (one_fault _ _) ?_)
        intro w8 hs8 hk8 hb8
        rw [splice_whole (by rfl)] at hb8
        (repeat (first | refine pl_pure hT rfl rfl rfl ?_ | refine pl_nil ?_ | refine rn_seq ?_ | refine rn_plain ?_ | refine rn_block ?_ | refine rn_inBlock ?_ | refine rn_skip ?_ | refine rn_true rfl ?_ | refine rn_false rfl ?_ | refine rn_exit rfl ?_ | refine pl_not rfl rfl ?_))
        rw [hdrop, toks_bad hbit hlen] at hput
        obtain ⟨e1, e2⟩ := faultOf_error hgt hput.symm
        refine rn_retTC Tryz.func19 rfl rfl rfl (blk_loadVar hT hb8 rfl) ⟨.slice none 0 0, ?_, ?_, (hk2.tr hk7).trB hk8 (by omega)⟩
        · rw [e1]
        · rw [e2]
          exact Own.nil _ _ _ _
  · refine pl_no rfl rfl rfl rfl rfl rfl (by first | (simp only [cmpP]; omega) | (simp [cmpP]; done) | (simp [cmpP]; omega)) ?_
    (repeat (first | refine pl_pure hT rfl rfl rfl ?_ | refine pl_nil ?_ | refine rn_seq ?_ | refine rn_plain ?_ | refine rn_block ?_ | refine rn_inBlock ?_ | refine rn_skip ?_ | refine rn_true rfl ?_ | refine rn_false rfl ?_ | refine rn_exit rfl ?_ | refine pl_not rfl rfl ?_))
    refine pl_val _ rfl rfl (val_build _ rfl rfl built_fault0 w2) ?_
    (repeat (first | refine pl_pure hT rfl rfl rfl ?_ | refine pl_nil ?_ | refine rn_seq ?_ | refine rn_plain ?_ | refine rn_block ?_ | refine rn_inBlock ?_ | refine rn_skip ?_ | refine rn_true rfl ?_ | refine rn_false rfl ?_ | refine rn_exit rfl ?_ | refine pl_not rfl rfl ?_))
    refine pl_op rfl rfl (opTo_storeN [.int .i64 0, .int .i64 0] rfl rfl rfl rfl size_fault hb2 (by simp) (one_fault _ _) ?_)
    intro w3 hs3 hk3 hb3
    rw [splice_whole (by rfl)] at hb3
    (repeat (first | refine pl_pure hT rfl rfl rfl ?_ | refine pl_nil ?_ | refine rn_seq ?_ | refine rn_plain ?_ | refine rn_block ?_ | refine rn_inBlock ?_ | refine rn_skip ?_ | refine rn_true rfl ?_ | refine rn_false rfl ?_ | refine rn_exit rfl ?_ | refine pl_not rfl rfl ?_))
    have hi' : i = l.length := by omega
    have hput2 : scanOf l = .ok acc := by
      rw [← hput, hi', List.drop_length]
      have : toks l.length l.length [] = .ok [] := by cases l.length <;> rfl
      rw [this]
      show Except.ok (acc ++ []) = _
      rw [List.append_nil]
    obtain ⟨e1, e2⟩ := faultOf_ok hgt hput2
    refine rn_retTC Tryz.func19 rfl rfl rfl (blk_loadVar hT hb3 rfl) ⟨v, ?_, ?_, hk2.trB hk3 (by omega)⟩
    · rw [e1]
    · rw [e2]
      exact hown.keep hk3 (by intro k hk; simp; exact fun h => own_ne hown hb2 (by decide) k hk h.symm)
end E
end Go.Proofs.YthbkcadiejfgaacGreatDoor

/- Contract of the document's Printed. -/
namespace Go.Proofs.YthbkcadiejfgaacGreatDoor
set_option maxRecDepth 20000
set_option maxHeartbeats 4000000
namespace E
open Go.Proofs

theorem nm8_of {vs : List VarT} (h : chkV [] 0 vs = 0) : nm8 vs := fun y hy => by
  have := (chkV_names h).1 y hy
  unfold nameB at this
  simp only [Bool.and_eq_true, decide_eq_true_eq] at this
  rw [← size_toList]
  exact this.2
theorem chkV_size : ∀ {vs : List VarT} {done : List ByteArray} {n : Int}, chkV done n vs = 0 → ∀ x ∈ vs, 1 ≤ x.2 ∧ x.2 ≤ 48
  | [], _, _, _, x, hx => by simp at hx
  | y :: r, done, n, h, x, hx => by
    unfold chkV at h
    split at h
    · cases h
    · split at h
      · cases h
      · split at h
        · cases h
        · rename_i h3
          rcases List.mem_cons.1 hx with rfl | hx
          · omega
          · exact chkV_size h x hx
theorem printV_len : ∀ (vs : List VarT), nm8 vs → (∀ x ∈ vs, 1 ≤ x.2 ∧ x.2 ≤ 48) → (printV vs).length ≤ 40 * vs.length
  | [], _, _ => by simp [printV]
  | x :: r, h, h2 => by
    have i1 := printV_len r (fun y hy => h y (List.mem_cons_of_mem _ hy)) (fun y hy => h2 y (List.mem_cons_of_mem _ hy))
    have i2 := h x (List.mem_cons_self ..)
    have i3 := h2 x (List.mem_cons_self ..)
    have i4 := Go.Lib.itoa_length_le x.2 (by omega) (by omega)
    have i5 : letT.length = 3 := by decide
    rw [← size_toList] at i2
    simp only [printV, List.length_append, List.length_cons]
    omega
/-- What Printed tells. -/
def printedOf (vs : List VarT) (b : List ST) : Except Flt (List UInt8) :=
  if progFault vs b ≠ 0 then .error (progFault vs b, -1) else if 6000 < (printV vs ++ printB vs b).length then .error (3, -1) else .ok (printV vs ++ printB vs b)
def txtX : Except Flt (List UInt8) → List UInt8
  | .ok l => l
  | .error _ => []
def fltX : Except Flt (List UInt8) → Flt
  | .ok _ => (0, 0)
  | .error e => e

theorem printed_ret {F : Nat → Prop} {w : World} {x : Value} {vs : List VarT} {body : List ST} (h : ProgV F w x vs body) (hF : In F w) (hw : Lw w) (hnm : ∀ y ∈ vs, y.1.size ≤ 100000) (hsz : szSs body ≤ 100000) (hlong : longSs body) :
    Ret Tryz.prog 13 [x] w fun r w' => r = .tuple #[.string (str (txtX (printedOf vs body))), .agg #[.int .i64 (fltX (printedOf vs body)).1, .int .i64 (fltX (printedOf vs body)).2]] ∧ Keep [] w w' := by
  have hprog := h
  obtain ⟨vv, bv, rfl, hv, hb⟩ := h
  obtain ⟨av, capv, rfl⟩ := hv.form
  obtain ⟨ab, capb, rfl⟩ := hb.form
  refine ret_of 63 Tryz.func13 rfl rfl (by simp) ?_
  (repeat (first | refine pl_pure hT rfl rfl rfl ?_ | refine pl_nil ?_ | refine rn_seq ?_ | refine rn_plain ?_ | refine rn_block ?_ | refine rn_inBlock ?_ | refine rn_skip ?_ | refine rn_true rfl ?_ | refine rn_false rfl ?_ | refine rn_exit rfl ?_ | refine pl_not rfl rfl ?_))
  refine pl_op rfl rfl (opTo_boxN [.slice av vs.length capv, .slice ab body.length capb] rfl rfl rfl ?_)
  intro w1 x1 hx1 hs1 hk1 hX1'
  (repeat (first | refine pl_pure hT rfl rfl rfl ?_ | refine pl_nil ?_ | refine rn_seq ?_ | refine rn_plain ?_ | refine rn_block ?_ | refine rn_inBlock ?_ | refine rn_skip ?_ | refine rn_true rfl ?_ | refine rn_false rfl ?_ | refine rn_exit rfl ?_ | refine pl_not rfl rfl ?_))
  refine pl_op rfl rfl (opTo_allocN _ rfl zero_fault ?_)
  intro w2 x3 hx3 hs2 hk2 hf2
  have hX1 := hk2.blk hX1' (by simp)
  have hk := hk1.tr hk2
  have hne : x1 ≠ x3 := by omega
  have hx3w : w.heap.size ≤ x3 := by omega
  have hF2 := hF.keep hk
  have hw2 := hw.keep hk
  have hv2 := hv.keep hk hF.stays
  have hb2 := hb.keep hk hF.stays
  have hprog2 := hprog.keep hk hF.stays
  clear hX1' hk1 hk2
  (repeat (first | refine pl_pure hT rfl rfl rfl ?_ | refine pl_nil ?_ | refine rn_seq ?_ | refine rn_plain ?_ | refine rn_block ?_ | refine rn_inBlock ?_ | refine rn_skip ?_ | refine rn_true rfl ?_ | refine rn_false rfl ?_ | refine rn_exit rfl ?_ | refine pl_not rfl rfl ?_))
  refine pl_val _ rfl rfl (val_load [.slice av vs.length capv, .slice ab body.length capb] hT rfl rfl rfl (hX1.range (by rfl))) ?_
  refine pl_op rfl rfl (opTo_call (fst := []) (cap := []) rfl rfl rfl rfl (by decide +kernel) ((refFault_ret hprog2 hF2 hnm hsz).mono ?_))
  rintro r w3 ⟨rfl, hk3⟩
  obtain ⟨c, hc⟩ : ∃ c, c = progFault vs body := ⟨_, rfl⟩
  rw [← hc]
  (repeat (first | refine pl_pure hT rfl rfl rfl ?_ | refine pl_nil ?_ | refine rn_seq ?_ | refine rn_plain ?_ | refine rn_block ?_ | refine rn_inBlock ?_ | refine rn_skip ?_ | refine rn_true rfl ?_ | refine rn_false rfl ?_ | refine rn_exit rfl ?_ | refine pl_not rfl rfl ?_))
  by_cases hc0 : c = 0
  · refine pl_no rfl rfl rfl rfl rfl rfl (by first | (simp only [cmpP]; omega) | (simp [cmpP]; done) | (simp [cmpP]; omega)) ?_
    obtain ⟨hvl, hcv, kk, hcs⟩ := progFault_ok (hc.symm.trans hc0)
    have hn := nm8_of hcv
    have hsv := chkV_size hcv
    have hpr := chkSs_pr body hcs hlong
    have hvlen := printV_len vs hn hsv
    have hblen := printB_len hn body hpr
    have hlen := szSs_len body
    have e0 : printedOf vs body = if 6000 < (printV vs ++ printB vs body).length then .error (3, -1) else .ok (printV vs ++ printB vs body) := by
      unfold printedOf
      rw [← hc, if_neg (by omega)]
    (repeat (first | refine pl_pure hT rfl rfl rfl ?_ | refine pl_not rfl rfl ?_ | refine pl_nil ?_ | refine rn_inBlock ?_ | refine rn_skip ?_ | refine rn_true rfl ?_ | refine rn_false rfl ?_ | refine rn_exit rfl ?_))
    refine rn_seq ?_
    refine rn_plain ?_
    (repeat (first | refine pl_pure hT rfl rfl rfl ?_ | refine pl_not rfl rfl ?_ | refine pl_nil ?_ | refine rn_inBlock ?_ | refine rn_skip ?_ | refine rn_true rfl ?_ | refine rn_false rfl ?_ | refine rn_exit rfl ?_))
    refine rn_seq ?_
    refine rn_with (fun σ' w' => Keep [] w2 w' ∧ Sub [(1, .pointer (some ⟨x1, 0, none⟩)), (2, .string (str [])), (3, .pointer (some ⟨x3, 0, none⟩)), (5, .string (str (printV vs)))] σ') ?_ ?_
    rotate_left
    · intro fin1
      refine rn_seq ?_
      refine rn_plain ?_
      (repeat (first | refine pl_pure hT rfl rfl rfl ?_ | refine pl_not rfl rfl ?_ | refine pl_nil ?_ | refine rn_inBlock ?_ | refine rn_skip ?_ | refine rn_true rfl ?_ | refine rn_false rfl ?_ | refine rn_exit rfl ?_))
      refine rn_block ?_
      refine rn_ind (fun m σ w' => ∃ i : Nat, i ≤ vs.length ∧ m = vs.length - i ∧ σ = [(1, .pointer (some ⟨x1, 0, none⟩)), (2, .string (str [])), (3, .pointer (some ⟨x3, 0, none⟩)), (5, .string (str (printV (vs.take i)))), (6, .int .i64 (i : Nat))] ∧ Keep [] w2 w') vs.length _ ?_ ⟨0, by omega, by omega, rfl, hk3⟩ ?_
      · have e0 : printV (vs.take 0) = [] := by simp [printV]
        exact ⟨rfl, rfl, rfl, by rw [e0]; rfl, rfl, trivial⟩
      rintro m σ w6 ih2 ⟨i, hi, rfl, rfl, hk6⟩
      (repeat (first | refine pl_pure hT rfl rfl rfl ?_ | refine pl_nil ?_ | refine rn_seq ?_ | refine rn_plain ?_ | refine rn_block ?_ | refine rn_inBlock ?_ | refine rn_skip ?_ | refine rn_true rfl ?_ | refine rn_false rfl ?_ | refine rn_exit rfl ?_ | refine pl_not rfl rfl ?_))
      refine pl_val _ rfl rfl (val_load1 hT rfl rfl rfl ((hk6.blk hX1 (by simp)).cell rfl)) ?_
      (repeat (first | refine pl_pure hT rfl rfl rfl ?_ | refine pl_nil ?_ | refine rn_seq ?_ | refine rn_plain ?_ | refine rn_block ?_ | refine rn_inBlock ?_ | refine rn_skip ?_ | refine rn_true rfl ?_ | refine rn_false rfl ?_ | refine rn_exit rfl ?_ | refine pl_not rfl rfl ?_))
      by_cases hlt : i < vs.length
      · refine pl_yes rfl rfl rfl rfl rfl (by first | (simp only [cmpP]; omega) | (simp [cmpP]; done) | (simp [cmpP]; omega)) ?_
        (repeat (first | refine pl_pure hT rfl rfl rfl ?_ | refine pl_nil ?_ | refine rn_seq ?_ | refine rn_plain ?_ | refine rn_block ?_ | refine rn_inBlock ?_ | refine rn_skip ?_ | refine rn_true rfl ?_ | refine rn_false rfl ?_ | refine rn_exit rfl ?_ | refine pl_not rfl rfl ?_))
        have hx : vs[i]? = some vs[i] := List.getElem?_eq_getElem hlt
        have htk := printV_take hx
        have hpt := printV_len (vs.take i) (fun y hy => hn y (List.mem_of_mem_take hy)) (fun y hy => hsv y (List.mem_of_mem_take hy))
        have hti : (vs.take i).length ≤ 8 := by simp; omega
        have hmem := List.getElem_mem hlt
        have hni := hn _ hmem
        have hsi := hsv _ hmem
        have hil := Go.Lib.itoa_length_le vs[i].2 (by omega) (by omega)
        obtain ⟨b1, q1, _, hv1, hF1, hr1⟩ := hv2.at hx
        cases hv1
        obtain ⟨nm, hnm'⟩ : ∃ nm, nm = vs[i].1.data.toList := ⟨_, rfl⟩
        have enm : vs[i].1 = str nm := by rw [hnm', str_data]
        have hnl : nm.length ≤ 8 := by rw [hnm', size_toList]; exact hni
        refine rn_draw (fun w' => Keep [] w6 w') [] hMix ?_
        have hS : Keep [] w6 w6.drew := (Keep.refl _ _).drew
        generalize w6.drew = w7 at *
        refine dr_pure 0 hT rfl (by decide +kernel) rfl rfl rfl ?_
        refine dr_pure 1 hT rfl (by decide +kernel) rfl rfl rfl ?_
        refine dr_val 2 _ rfl (by decide +kernel) rfl rfl (fun w9 hS9 => val_load1 hT rfl rfl rfl (((hk6.tr hS9).blk hX1 (by simp)).cell rfl)) hS ?_
        refine dr_pure 3 hT rfl (by decide +kernel) rfl rfl rfl ?_
        refine dr_any 4 _ rfl (by decide +kernel) rfl rfl (fun w => val_index i hT rfl rfl rfl rfl rfl hlt w) ?_
        refine dr_pure 5 hT rfl (by decide +kernel) rfl rfl rfl ?_
        refine dr_val 6 (.string (str nm)) rfl (by decide +kernel) rfl rfl (fun w9 hS9 => val_load1 hT rfl rfl rfl (range_keep hr1 (hk6.tr hS9) (hF2 _ hF1) (by simp) 0 (.string (str nm)) (by rw [← enm]; rfl))) hS ?_
        refine dr_any 7 _ rfl (by decide +kernel) rfl rfl (fun w => val_add [108, 101, 116, 32] nm rfl rfl rfl (by simp; omega) w) ?_
        refine dr_any 8 _ rfl (by decide +kernel) rfl rfl (fun w => val_add ([108, 101, 116, 32] ++ nm) [32] rfl rfl rfl (by simp; omega) w) ?_
        refine dr_pure 9 hT rfl (by decide +kernel) rfl rfl rfl ?_
        refine dr_val 10 _ rfl (by decide +kernel) rfl rfl (fun w9 hS9 => val_load1 hT rfl rfl rfl (((hk6.tr hS9).blk hX1 (by simp)).cell rfl)) hS ?_
        refine dr_pure 11 hT rfl (by decide +kernel) rfl rfl rfl ?_
        refine dr_any 12 _ rfl (by decide +kernel) rfl rfl (fun w => val_index i hT rfl rfl rfl rfl rfl hlt w) ?_
        refine dr_pure 13 hT rfl (by decide +kernel) rfl rfl rfl ?_
        refine dr_val 14 (.int .i64 vs[i].2) rfl (by decide +kernel) rfl rfl (fun w9 hS9 => val_load1 hT rfl rfl rfl (range_keep hr1 (hk6.tr hS9) (hF2 _ hF1) (by simp) 1 (.int .i64 vs[i].2) rfl)) hS ?_
        refine dr_op 15 rfl (by decide +kernel) rfl rfl (opTo_call rfl rfl rfl rfl (by decide +kernel) ((itoaR_ret vs[i].2 (by omega) (by omega) (hw2.keep (hk6.tr hS))).mono ?_))
        rintro v8 w8 ⟨rfl, hk8⟩
        refine ⟨fun _ => hS.tr hk8, ?_⟩
        refine dr_any 16 _ rfl (by decide +kernel) rfl rfl (fun w => val_add ([108, 101, 116, 32] ++ nm ++ [32]) _ rfl rfl rfl (by simp; omega) w) ?_
        refine dr_any 17 _ rfl (by decide +kernel) rfl rfl (fun w => val_add _ [10] rfl rfl rfl (by simp; omega) w) ?_
        refine dr_any 18 _ rfl (by decide +kernel) rfl rfl (fun w => val_add (printV (vs.take i)) _ rfl rfl rfl (by simp; omega) w) ?_
        refine dr_pure 19 hT rfl (by decide +kernel) rfl rfl rfl ?_
        refine dr_done (by decide +kernel) ?_
        have hk68 := (hk6.tr hS).tr hk8
        (repeat (first | refine pl_pure hT rfl rfl rfl ?_ | refine pl_nil ?_ | refine rn_seq ?_ | refine rn_plain ?_ | refine rn_block ?_ | refine rn_inBlock ?_ | refine rn_skip ?_ | refine rn_true rfl ?_ | refine rn_false rfl ?_ | refine rn_exit rfl ?_ | refine pl_not rfl rfl ?_))
        refine pl_num (((i + 1 : Nat) : Int)) rfl rfl rfl rfl rfl (by simp only [ariP]; omega) ?_
        (repeat (first | refine pl_pure hT rfl rfl rfl ?_ | refine pl_nil ?_ | refine rn_seq ?_ | refine rn_plain ?_ | refine rn_block ?_ | refine rn_inBlock ?_ | refine rn_skip ?_ | refine rn_true rfl ?_ | refine rn_false rfl ?_ | refine rn_exit rfl ?_ | refine pl_not rfl rfl ?_))
        refine rn_sub ?_ (ih2 (vs.length - (i + 1)) [(1, .pointer (some ⟨x1, 0, none⟩)), (2, .string (str [])), (3, .pointer (some ⟨x3, 0, none⟩)), (5, .string (str (printV (vs.take (i + 1))))), (6, .int .i64 ((i + 1 : Nat) : Int))] w8 (by omega) ⟨i + 1, by omega, rfl, rfl, hk68⟩)
        have e : printV (vs.take (i + 1)) = printV (vs.take i) ++ ([108, 101, 116, 32] ++ nm ++ [32] ++ Go.Lib.itoa vs[i].2 ++ [10]) := by
          rw [htk, ← hnm']
          have e3 : letT = [108, 101, 116] := by decide
          rw [e3]
          simp
        rw [e]
        exact ⟨rfl, rfl, rfl, rfl, rfl, trivial⟩
      · refine pl_no rfl rfl rfl rfl rfl rfl (by first | (simp only [cmpP]; omega) | (simp [cmpP]; done) | (simp [cmpP]; omega)) ?_
        (repeat (first | refine pl_pure hT rfl rfl rfl ?_ | refine pl_not rfl rfl ?_ | refine pl_nil ?_ | refine rn_inBlock ?_ | refine rn_skip ?_ | refine rn_true rfl ?_ | refine rn_false rfl ?_ | refine rn_exit rfl ?_))
        rw [List.take_of_length_le (by omega)]
        exact fin1 _ _ ⟨hk6, rfl, rfl, rfl, rfl, trivial⟩
    rintro σ' w5 ⟨hk5, hsub⟩
    refine rn_sub hsub ?_
    (repeat (first | refine pl_pure hT rfl rfl rfl ?_ | refine pl_not rfl rfl ?_ | refine pl_nil ?_ | refine rn_inBlock ?_ | refine rn_skip ?_ | refine rn_true rfl ?_ | refine rn_false rfl ?_ | refine rn_exit rfl ?_))
    refine rn_seq ?_
    refine rn_with (fun σ' w' => Keep [] w2 w' ∧ Sub [(1, .pointer (some ⟨x1, 0, none⟩)), (2, .string (str [])), (3, .pointer (some ⟨x3, 0, none⟩)), (5, .string (str (printV vs ++ printB vs body)))] σ') ?_ ?_
    rotate_left
    · intro fin1
      refine rn_seq ?_
      refine rn_plain ?_
      (repeat (first | refine pl_pure hT rfl rfl rfl ?_ | refine pl_not rfl rfl ?_ | refine pl_nil ?_ | refine rn_inBlock ?_ | refine rn_skip ?_ | refine rn_true rfl ?_ | refine rn_false rfl ?_ | refine rn_exit rfl ?_))
      refine rn_block ?_
      refine rn_ind (fun m σ w' => ∃ i : Nat, i ≤ body.length ∧ m = body.length - i ∧ σ = [(1, .pointer (some ⟨x1, 0, none⟩)), (2, .string (str [])), (3, .pointer (some ⟨x3, 0, none⟩)), (5, .string (str (printV vs ++ printB vs (body.take i)))), (7, .int .i64 (i : Nat))] ∧ Keep [] w2 w') body.length _ ?_ ⟨0, by omega, by omega, rfl, hk5⟩ ?_
      · have e0 : printV vs ++ printB vs (body.take 0) = printV vs := by simp [printB]
        exact ⟨rfl, rfl, rfl, by rw [e0]; rfl, rfl, trivial⟩
      rintro m σ w6 ih2 ⟨i, hi, rfl, rfl, hk6⟩
      (repeat (first | refine pl_pure hT rfl rfl rfl ?_ | refine pl_nil ?_ | refine rn_seq ?_ | refine rn_plain ?_ | refine rn_block ?_ | refine rn_inBlock ?_ | refine rn_skip ?_ | refine rn_true rfl ?_ | refine rn_false rfl ?_ | refine rn_exit rfl ?_ | refine pl_not rfl rfl ?_))
      refine pl_val _ rfl rfl (val_load1 hT rfl rfl rfl ((hk6.blk hX1 (by simp)).cell rfl)) ?_
      (repeat (first | refine pl_pure hT rfl rfl rfl ?_ | refine pl_nil ?_ | refine rn_seq ?_ | refine rn_plain ?_ | refine rn_block ?_ | refine rn_inBlock ?_ | refine rn_skip ?_ | refine rn_true rfl ?_ | refine rn_false rfl ?_ | refine rn_exit rfl ?_ | refine pl_not rfl rfl ?_))
      by_cases hlt : i < body.length
      · refine pl_yes rfl rfl rfl rfl rfl (by first | (simp only [cmpP]; omega) | (simp [cmpP]; done) | (simp [cmpP]; omega)) ?_
        (repeat (first | refine pl_pure hT rfl rfl rfl ?_ | refine pl_nil ?_ | refine rn_seq ?_ | refine rn_plain ?_ | refine rn_block ?_ | refine rn_inBlock ?_ | refine rn_skip ?_ | refine rn_true rfl ?_ | refine rn_false rfl ?_ | refine rn_exit rfl ?_ | refine pl_not rfl rfl ?_))
        have hx : body[i]? = some body[i] := List.getElem?_eq_getElem hlt
        have hszi := szSs_at hx
        have hpi := prSs_at hpr hx
        have hpl := printS_len hn _ hpi
        have htk := printB_take vs hx
        have hpt := printB_len hn _ (prSs_take i hpr)
        have hst' := szSs_take body i
        obtain ⟨b1, q1, _, ci, hv1, hF1, hr1, hc1⟩ := hb2.at hx
        cases hv1
        refine rn_draw (fun w' => Keep [] w6 w') [] hMix ?_
        have hS : Keep [] w6 w6.drew := (Keep.refl _ _).drew
        generalize w6.drew = w7 at *
        refine dr_pure 0 hT rfl (by decide +kernel) rfl rfl rfl ?_
        refine dr_val 1 (.agg #[.slice av vs.length capv, .slice (some ⟨b1, q1, none⟩) body.length capb]) rfl (by decide +kernel) rfl rfl (fun w9 hS9 => val_load [.slice av vs.length capv, .slice (some ⟨b1, q1, none⟩) body.length capb] hT rfl rfl rfl (((hk6.tr hS9).blk hX1 (by simp)).range (by rfl))) hS ?_
        refine dr_pure 2 hT rfl (by decide +kernel) rfl rfl rfl ?_
        refine dr_val 3 _ rfl (by decide +kernel) rfl rfl (fun w9 hS9 => val_load1 hT rfl rfl rfl (((hk6.tr hS9).blk hX1 (by simp)).cell rfl)) hS ?_
        refine dr_pure 4 hT rfl (by decide +kernel) rfl rfl rfl ?_
        refine dr_any 5 _ rfl (by decide +kernel) rfl rfl (fun w => val_index i hT rfl rfl rfl rfl rfl hlt w) ?_
        refine dr_val 6 (.agg ci.toArray) rfl (by decide +kernel) rfl rfl (fun w9 hS9 => val_load ci hT rfl rfl (by rw [hc1.length]; rfl) (range_keep hr1 (hk6.tr hS9) (hF2 _ hF1) (by simp))) hS ?_
        refine dr_op 7 rfl (by decide +kernel) rfl rfl (opTo_call rfl rfl rfl rfl (by decide +kernel) ((stmtText_ret hn (szS body[i] + 1) body[i] (by omega) (by omega) hpi (hv2.keep (hk6.tr hS) hF2.stays) (hc1.keep (hk6.tr hS) hF2.stays) (hF2.keep (hk6.tr hS)) (hw2.keep (hk6.tr hS))).mono ?_))
        rintro v8 w8 ⟨rfl, hk8⟩
        refine ⟨fun _ => hS.tr hk8, ?_⟩
        refine dr_any 8 _ rfl (by decide +kernel) rfl rfl (fun w => val_add _ [10] rfl rfl rfl (by simp; omega) w) ?_
        refine dr_any 9 _ rfl (by decide +kernel) rfl rfl (fun w => val_add (printV vs ++ printB vs (body.take i)) _ rfl rfl rfl (by simp; omega) w) ?_
        refine dr_pure 10 hT rfl (by decide +kernel) rfl rfl rfl ?_
        refine dr_done (by decide +kernel) ?_
        have hk68 := (hk6.tr hS).tr hk8
        (repeat (first | refine pl_pure hT rfl rfl rfl ?_ | refine pl_nil ?_ | refine rn_seq ?_ | refine rn_plain ?_ | refine rn_block ?_ | refine rn_inBlock ?_ | refine rn_skip ?_ | refine rn_true rfl ?_ | refine rn_false rfl ?_ | refine rn_exit rfl ?_ | refine pl_not rfl rfl ?_))
        refine pl_num (((i + 1 : Nat) : Int)) rfl rfl rfl rfl rfl (by simp only [ariP]; omega) ?_
        (repeat (first | refine pl_pure hT rfl rfl rfl ?_ | refine pl_nil ?_ | refine rn_seq ?_ | refine rn_plain ?_ | refine rn_block ?_ | refine rn_inBlock ?_ | refine rn_skip ?_ | refine rn_true rfl ?_ | refine rn_false rfl ?_ | refine rn_exit rfl ?_ | refine pl_not rfl rfl ?_))
        refine rn_sub ?_ (ih2 (body.length - (i + 1)) [(1, .pointer (some ⟨x1, 0, none⟩)), (2, .string (str [])), (3, .pointer (some ⟨x3, 0, none⟩)), (5, .string (str (printV vs ++ printB vs (body.take (i + 1))))), (7, .int .i64 ((i + 1 : Nat) : Int))] w8 (by omega) ⟨i + 1, by omega, rfl, rfl, hk68⟩)
        rw [htk, ← List.append_assoc]
        exact ⟨rfl, rfl, rfl, rfl, rfl, trivial⟩
      · refine pl_no rfl rfl rfl rfl rfl rfl (by first | (simp only [cmpP]; omega) | (simp [cmpP]; done) | (simp [cmpP]; omega)) ?_
        (repeat (first | refine pl_pure hT rfl rfl rfl ?_ | refine pl_not rfl rfl ?_ | refine pl_nil ?_ | refine rn_inBlock ?_ | refine rn_skip ?_ | refine rn_true rfl ?_ | refine rn_false rfl ?_ | refine rn_exit rfl ?_))
        rw [List.take_of_length_le (by omega)]
        exact fin1 _ _ ⟨hk6, rfl, rfl, rfl, rfl, trivial⟩
    rintro σ' w6 ⟨hk6, hsub⟩
    refine rn_sub hsub ?_
    obtain ⟨TT, hTT⟩ : ∃ TT, TT = printV vs ++ printB vs body := ⟨_, rfl⟩
    rw [← hTT] at e0 ⊢
    (repeat (first | refine pl_pure hT rfl rfl rfl ?_ | refine pl_nil ?_ | refine rn_seq ?_ | refine rn_plain ?_ | refine rn_block ?_ | refine rn_inBlock ?_ | refine rn_skip ?_ | refine rn_true rfl ?_ | refine rn_false rfl ?_ | refine rn_exit rfl ?_ | refine pl_not rfl rfl ?_))
    refine pl_val _ rfl rfl (val_len TT (by decide +kernel) rfl rfl w6) ?_
    by_cases hlt : 6000 < TT.length
    · refine pl_yes rfl rfl rfl rfl rfl (by first | (simp only [cmpP]; omega) | (simp [cmpP]; done) | (simp [cmpP]; omega)) ?_
      (repeat (first | refine pl_pure hT rfl rfl rfl ?_ | refine pl_nil ?_ | refine rn_seq ?_ | refine rn_plain ?_ | refine rn_block ?_ | refine rn_inBlock ?_ | refine rn_skip ?_ | refine rn_true rfl ?_ | refine rn_false rfl ?_ | refine rn_exit rfl ?_ | refine pl_not rfl rfl ?_))
      refine pl_op rfl rfl (opTo_call (fst := []) (cap := []) rfl rfl rfl rfl (by decide +kernel) ((faultR_ret 3 (-1) w6).mono ?_))
      rintro r w7 ⟨rfl, hk7⟩
      have hf7 := (hk6.tr hk7).blk hf2 (by simp)
      (repeat (first | refine pl_pure hT rfl rfl rfl ?_ | refine pl_nil ?_ | refine rn_seq ?_ | refine rn_plain ?_ | refine rn_block ?_ | refine rn_inBlock ?_ | refine rn_skip ?_ | refine rn_true rfl ?_ | refine rn_false rfl ?_ | refine rn_exit rfl ?_ | refine pl_not rfl rfl ?_))
      refine pl_op rfl rfl (opTo_storeN [.int .i64 3, .int .i64 (-1)] rfl rfl rfl rfl size_fault hf7 (by simp) (one_fault _ _) ?_)
      intro w8 hs8 hk8 hf8
      rw [splice_whole (by rfl)] at hf8
      (repeat (first | refine pl_pure hT rfl rfl rfl ?_ | refine pl_nil ?_ | refine rn_seq ?_ | refine rn_plain ?_ | refine rn_block ?_ | refine rn_inBlock ?_ | refine rn_skip ?_ | refine rn_true rfl ?_ | refine rn_false rfl ?_ | refine rn_exit rfl ?_ | refine pl_not rfl rfl ?_))
      refine rn_retTC Tryz.func13 rfl rfl rfl (blk_loadVar hT hf8 rfl) ⟨?_, (hk.tr (hk6.tr hk7)).trB hk8 hx3w⟩
      rw [e0, if_pos hlt]
      rfl
    · refine pl_no rfl rfl rfl rfl rfl rfl (by first | (simp only [cmpP]; omega) | (simp [cmpP]; done) | (simp [cmpP]; omega)) ?_
      (repeat (first | refine pl_pure hT rfl rfl rfl ?_ | refine pl_nil ?_ | refine rn_seq ?_ | refine rn_plain ?_ | refine rn_block ?_ | refine rn_inBlock ?_ | refine rn_skip ?_ | refine rn_true rfl ?_ | refine rn_false rfl ?_ | refine rn_exit rfl ?_ | refine pl_not rfl rfl ?_))
      refine pl_val _ rfl rfl (val_build _ rfl rfl built_fault0 w6) ?_
      (repeat (first | refine pl_pure hT rfl rfl rfl ?_ | refine pl_nil ?_ | refine rn_seq ?_ | refine rn_plain ?_ | refine rn_block ?_ | refine rn_inBlock ?_ | refine rn_skip ?_ | refine rn_true rfl ?_ | refine rn_false rfl ?_ | refine rn_exit rfl ?_ | refine pl_not rfl rfl ?_))
      refine pl_op rfl rfl (opTo_storeN [.int .i64 0, .int .i64 0] rfl rfl rfl rfl size_fault (hk6.blk hf2 (by simp)) (by simp) (one_fault _ _) ?_)
      intro w8 hs8 hk8 hf8
      rw [splice_whole (by rfl)] at hf8
      (repeat (first | refine pl_pure hT rfl rfl rfl ?_ | refine pl_nil ?_ | refine rn_seq ?_ | refine rn_plain ?_ | refine rn_block ?_ | refine rn_inBlock ?_ | refine rn_skip ?_ | refine rn_true rfl ?_ | refine rn_false rfl ?_ | refine rn_exit rfl ?_ | refine pl_not rfl rfl ?_))
      refine rn_retTC Tryz.func13 rfl rfl rfl (blk_loadVar hT hf8 rfl) ⟨?_, (hk.tr hk6).trB hk8 hx3w⟩
      rw [e0, if_neg hlt]
      rfl
  · refine pl_yes rfl rfl rfl rfl rfl (by first | (simp only [cmpP]; omega) | (simp [cmpP]; done) | (simp [cmpP]; omega)) ?_
    (repeat (first | refine pl_pure hT rfl rfl rfl ?_ | refine pl_nil ?_ | refine rn_seq ?_ | refine rn_plain ?_ | refine rn_block ?_ | refine rn_inBlock ?_ | refine rn_skip ?_ | refine rn_true rfl ?_ | refine rn_false rfl ?_ | refine rn_exit rfl ?_ | refine pl_not rfl rfl ?_))
    refine pl_op rfl rfl (opTo_call (fst := []) (cap := []) rfl rfl rfl rfl (by decide +kernel) ((faultR_ret c (-1) w3).mono ?_))
    rintro r w4 ⟨rfl, hk4⟩
    have hf4 := (hk3.tr hk4).blk hf2 (by simp)
    (repeat (first | refine pl_pure hT rfl rfl rfl ?_ | refine pl_nil ?_ | refine rn_seq ?_ | refine rn_plain ?_ | refine rn_block ?_ | refine rn_inBlock ?_ | refine rn_skip ?_ | refine rn_true rfl ?_ | refine rn_false rfl ?_ | refine rn_exit rfl ?_ | refine pl_not rfl rfl ?_))
    refine pl_op rfl rfl (opTo_storeN [.int .i64 c, .int .i64 (-1)] rfl rfl rfl rfl size_fault hf4 (by simp) (one_fault _ _) ?_)
    intro w8 hs8 hk8 hf8
    rw [splice_whole (by rfl)] at hf8
    (repeat (first | refine pl_pure hT rfl rfl rfl ?_ | refine pl_nil ?_ | refine rn_seq ?_ | refine rn_plain ?_ | refine rn_block ?_ | refine rn_inBlock ?_ | refine rn_skip ?_ | refine rn_true rfl ?_ | refine rn_false rfl ?_ | refine rn_exit rfl ?_ | refine pl_not rfl rfl ?_))
    refine rn_retTC Tryz.func13 rfl rfl rfl (blk_loadVar hT hf8 rfl) ⟨?_, (hk.tr (hk3.tr hk4)).trB hk8 hx3w⟩
    have e0 : printedOf vs body = .error (c, -1) := by
      unfold printedOf
      rw [← hc, if_pos hc0]
    rw [e0]
    rfl
end E
end Go.Proofs.YthbkcadiejfgaacGreatDoor
