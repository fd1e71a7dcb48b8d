/- Contract of the document's Scan. -/
import Derived.Test.YthidfgolcibcoacDoorTkD
namespace Go.Proofs.YthidfgolcibcoacDoor
set_option maxRecDepth 20000
set_option maxHeartbeats 4000000
namespace E
open Go.Proofs

theorem built_rtok2 (a : Int) (s : ByteArray) : Tryd.prog.built 33 [(0, .int .i64 a), (1, .string s)] = some [Value.int .i64 a, .string s, .bool false, .int .i64 0].toArray := by kernel_rfl
theorem built_rtok4 (a : Int) (s : ByteArray) (v : Int) : Tryd.prog.built 33 [(0, .int .i64 a), (1, .string s), (2, .bool true), (3, .int .i64 v)] = some [Value.int .i64 a, .string s, .bool true, .int .i64 v].toArray := by kernel_rfl
theorem slice_rtok (a b c d : Value) : sliceCells Tryd.prog 28 1 [(0, .agg #[a, b, c, d])] = some (33, #[a, b, c, d]) := by kernel_rfl

theorem cut_tok {l : List UInt8} {i : Nat} {c : UInt8} {r t : List UInt8} {q : Bool} {z : Int} (hd : l.drop i = c :: r) (h : bit c r = .tok t q z) : (l.drop i).take (i + t.length - i) = t := by
  obtain ⟨u, s, rfl, rfl, _⟩ := bit_tok h
  rw [hd, Nat.add_sub_cancel_left, List.length_cons, List.take_succ_cons, List.take_left]

theorem faultR_ret (a b : Int) (w : World) : Ret Tryd.prog 10 [.int .i64 a, .int .i64 b] w fun r w' => r = .agg #[.int .i64 a, .int .i64 b] ∧ Keep [] w w' := by
  refine ret_of 8 Tryd.func10 rfl rfl (by simp) ?_
  (repeat (first | refine pl_pure hT rfl rfl rfl ?_ | refine pl_nil ?_ | refine rn_seq ?_ | refine rn_plain ?_ | refine rn_block ?_ | refine rn_inBlock ?_ | refine rn_skip ?_ | refine rn_true rfl ?_ | refine rn_false rfl ?_ | refine rn_exit rfl ?_ | refine pl_not rfl rfl ?_))
  refine pl_op rfl rfl (opTo_allocN _ rfl zero_fault ?_)
  intro w1 c hc hs1 hk1 hb1
  (repeat (first | refine pl_pure hT rfl rfl rfl ?_ | refine pl_nil ?_ | refine rn_seq ?_ | refine rn_plain ?_ | refine rn_block ?_ | refine rn_inBlock ?_ | refine rn_skip ?_ | refine rn_true rfl ?_ | refine rn_false rfl ?_ | refine rn_exit rfl ?_ | refine pl_not rfl rfl ?_))
  refine pl_val _ rfl rfl (val_build _ rfl rfl (built_fault a b) w1) ?_
  refine pl_op rfl rfl (opTo_storeN [.int .i64 a, .int .i64 b] rfl rfl rfl rfl size_fault hb1 (by simp) (one_fault _ _) ?_)
  intro w2 hs2 hk2 hb2
  rw [splice_whole (by rfl)] at hb2
  (repeat (first | refine pl_pure hT rfl rfl rfl ?_ | refine pl_nil ?_ | refine rn_seq ?_ | refine rn_plain ?_ | refine rn_block ?_ | refine rn_inBlock ?_ | refine rn_skip ?_ | refine rn_true rfl ?_ | refine rn_false rfl ?_ | refine rn_exit rfl ?_ | refine pl_not rfl rfl ?_))
  exact rn_ret Tryd.func10 (.inr (.inr (.inl ⟨_, _, _, rfl, rfl, blk_loadVar hT hb2 rfl⟩))) ⟨rfl, hk1.trB hk2 (by omega)⟩

theorem scanR_ret (l : List UInt8) (hl : l.length ≤ 1000000) {w : World} (hw : Lw w) : Ret Tryd.prog 7 [.string (str l)] w fun x w' =>
    ∃ v, x = .tuple #[v, .agg #[.int .i64 (faultOf l).1, .int .i64 (faultOf l).2]] ∧ Own w' w.heap.size 33 4 v (toksOf l).length ((toksOf l).flatMap tokL) ∧ Keep [] w w' := by
  refine ret_of 124 Tryd.func7 rfl rfl (by simp) ?_
  (repeat (first | refine pl_pure hT rfl rfl rfl ?_ | refine pl_nil ?_ | refine rn_seq ?_ | refine rn_plain ?_ | refine rn_block ?_ | refine rn_inBlock ?_ | refine rn_skip ?_ | refine rn_true rfl ?_ | refine rn_false rfl ?_ | refine rn_exit rfl ?_ | refine pl_not rfl rfl ?_))
  refine pl_op rfl rfl (opTo_allocN _ rfl zero_fault ?_)
  intro w1 b hb0 hs1 hk1 hb1
  (repeat (first | refine pl_pure hT rfl rfl rfl ?_ | refine pl_nil ?_ | refine rn_seq ?_ | refine rn_plain ?_ | refine rn_block ?_ | refine rn_inBlock ?_ | refine rn_skip ?_ | refine rn_true rfl ?_ | refine rn_false rfl ?_ | refine rn_exit rfl ?_ | refine pl_not rfl rfl ?_))
  refine pl_val _ rfl rfl (val_len l (by decide +kernel) rfl rfl w1) ?_
  by_cases hgt : 6000 < l.length
  · refine pl_yes rfl rfl rfl rfl rfl (by first | (simp only [cmpP]; omega) | (simp [cmpP]; done) | (simp [cmpP]; omega)) ?_
    (repeat (first | refine pl_pure hT rfl rfl rfl ?_ | refine pl_nil ?_ | refine rn_seq ?_ | refine rn_plain ?_ | refine rn_block ?_ | refine rn_inBlock ?_ | refine rn_skip ?_ | refine rn_true rfl ?_ | refine rn_false rfl ?_ | refine rn_exit rfl ?_ | refine pl_not rfl rfl ?_))
    refine pl_op rfl rfl (opTo_call (fst := []) (cap := []) rfl rfl rfl rfl (by decide +kernel) ((faultR_ret 3 6000 w1).mono ?_))
    rintro x w2 ⟨rfl, hk2⟩
    have hb2 := hk2.blk hb1 (by simp)
    (repeat (first | refine pl_pure hT rfl rfl rfl ?_ | refine pl_nil ?_ | refine rn_seq ?_ | refine rn_plain ?_ | refine rn_block ?_ | refine rn_inBlock ?_ | refine rn_skip ?_ | refine rn_true rfl ?_ | refine rn_false rfl ?_ | refine rn_exit rfl ?_ | refine pl_not rfl rfl ?_))
    refine pl_op rfl rfl (opTo_storeN [.int .i64 3, .int .i64 6000] rfl rfl rfl rfl size_fault hb2 (by simp) (one_fault _ _) ?_)
    intro w3 hs3 hk3 hb3
    rw [splice_whole (by rfl)] at hb3
    (repeat (first | refine pl_pure hT rfl rfl rfl ?_ | refine pl_nil ?_ | refine rn_seq ?_ | refine rn_plain ?_ | refine rn_block ?_ | refine rn_inBlock ?_ | refine rn_skip ?_ | refine rn_true rfl ?_ | refine rn_false rfl ?_ | refine rn_exit rfl ?_ | refine pl_not rfl rfl ?_))
    refine rn_retTC Tryd.func7 rfl rfl rfl (blk_loadVar hT hb3 rfl) ⟨.slice none 0 0, ?_, ?_, (hk1.tr hk2).trB hk3 (by omega)⟩
    · unfold faultOf
      rw [if_pos hgt]
    · unfold toksOf
      rw [if_pos hgt]
      exact Own.nil _ _ _ _
  refine pl_no rfl rfl rfl rfl rfl rfl (by first | (simp only [cmpP]; omega) | (simp [cmpP]; done) | (simp [cmpP]; omega)) ?_
  (repeat (first | refine pl_pure hT rfl rfl rfl ?_ | refine pl_nil ?_ | refine rn_seq ?_ | refine rn_plain ?_ | refine rn_block ?_ | refine rn_inBlock ?_ | refine rn_skip ?_ | refine rn_true rfl ?_ | refine rn_false rfl ?_ | refine rn_exit rfl ?_ | refine pl_not rfl rfl ?_))
  refine rn_ind (fun m σ w' => ∃ (i : Nat) (acc : List Tok) (v : Value), i ≤ l.length ∧ m = l.length - i ∧ σ = [(0, .string (str l)), (3, .pointer (some ⟨b, 0, none⟩)), (4, v), (5, .int .i64 (i : Nat))] ∧ acc.length ≤ i ∧
    putT acc (toks l.length i (l.drop i)) = scanOf l ∧ Own w' w.heap.size 33 4 v acc.length (acc.flatMap tokL) ∧ Blk w' b [.int .i64 0, .int .i64 0] 25 ∧ Keep [] w w') l.length _ ?_
    ⟨0, [], _, by omega, by omega, rfl, by simp, by rw [putT_nil]; rfl, Own.nil _ _ _ _, hb1, hk1⟩ ?_
  · exact ⟨rfl, rfl, rfl, rfl, trivial⟩
  rintro m σ w2 ih ⟨i, acc, v, hi, rfl, rfl, hacc, hput, hown, hb2, hk2⟩
  (repeat (first | refine pl_pure hT rfl rfl rfl ?_ | refine pl_nil ?_ | refine rn_seq ?_ | refine rn_plain ?_ | refine rn_block ?_ | refine rn_inBlock ?_ | refine rn_skip ?_ | refine rn_true rfl ?_ | refine rn_false rfl ?_ | refine rn_exit rfl ?_ | refine pl_not rfl rfl ?_))
  refine pl_val _ rfl rfl (val_len l (by decide +kernel) rfl rfl w2) ?_
  by_cases hlt : i < l.length
  · obtain ⟨c, r, hdrop, hget, hdr⟩ := drop_at hlt
    have hlen : (c :: r).length ≤ l.length := by rw [← hdrop, List.length_drop]; omega
    have hlen2 : (c :: r).length = l.length - i := by rw [← hdrop, List.length_drop]
    simp only [List.length_cons] at hlen2
    refine pl_yes rfl rfl rfl rfl rfl (by first | (simp only [cmpP]; omega) | (simp [cmpP]; done) | (simp [cmpP]; omega)) ?_
    (repeat (first | refine pl_pure hT rfl rfl rfl ?_ | refine pl_nil ?_ | refine rn_seq ?_ | refine rn_plain ?_ | refine rn_block ?_ | refine rn_inBlock ?_ | refine rn_skip ?_ | refine rn_true rfl ?_ | refine rn_false rfl ?_ | refine rn_exit rfl ?_ | refine pl_not rfl rfl ?_))
    refine pl_val _ rfl rfl (val_byte l i c (by decide +kernel) rfl rfl rfl rfl hget w2) ?_
    (repeat (first | refine pl_pure hT rfl rfl rfl ?_ | refine pl_nil ?_ | refine rn_seq ?_ | refine rn_plain ?_ | refine rn_block ?_ | refine rn_inBlock ?_ | refine rn_skip ?_ | refine rn_true rfl ?_ | refine rn_false rfl ?_ | refine rn_exit rfl ?_ | refine pl_not rfl rfl ?_))
    refine pl_num (((i + 1 : Nat) : Int)) rfl rfl rfl rfl rfl (by simp only [ariP]; omega) ?_
    by_cases hbl : blankB c = true
    · have hn := hbl
      rw [blank_n] at hn
      simp only [Bool.or_eq_true, decide_eq_true_eq] at hn
      rcases hn with ((hn | hn) | hn) | hn
      all_goals
        (repeat (first | refine pl_pure hT rfl rfl rfl ?_ | refine pl_nil ?_ | refine rn_seq ?_ | refine rn_plain ?_ | refine rn_block ?_ | refine rn_inBlock ?_ | refine rn_skip ?_ | refine rn_true rfl ?_ | refine rn_false rfl ?_ | refine rn_exit rfl ?_ | refine pl_not rfl rfl ?_ | refine pl_val _ rfl rfl (val_load1 hT rfl rfl rfl (Blk.cell (by assumption) (by rfl))) ?_ | refine pl_yes rfl rfl rfl rfl rfl (by first | (simp only [cmpP]; omega) | (simp [cmpP]; done) | (simp [cmpP]; omega)) ?_ | refine pl_no rfl rfl rfl rfl rfl rfl (by first | (simp only [cmpP]; omega) | (simp [cmpP]; done) | (simp [cmpP]; omega)) ?_))
        refine rn_sub ?_ (ih _ _ _ ?_ ⟨i + 1, acc, v, hlt, rfl, rfl, by omega, ?_, hown, hb2, hk2⟩)
        · exact ⟨rfl, rfl, rfl, rfl, trivial⟩
        · omega
        · rw [hdrop, toks_skip (bit_blank c r hbl) hlen] at hput
          rw [hdr]
          exact hput
    have hbl' : blankB c = false := by simpa using hbl
    have hn : c.toNat ≠ 32 ∧ c.toNat ≠ 9 ∧ c.toNat ≠ 10 ∧ c.toNat ≠ 13 := by
      have h := hbl'
      rw [blank_n] at h
      simp only [Bool.or_eq_false_iff, decide_eq_false_iff_not] at h
      exact ⟨h.1.1.1, h.1.1.2, h.1.2, h.2⟩
    obtain ⟨hn1, hn2, hn3, hn4⟩ := hn
    have hwl := while_le letB r
    have hwd := while_le dig r
    by_cases hp : parenB c = true
    · have hbit := bit_paren (r := r) hbl' hp
      rw [paren_n, Bool.or_eq_true, decide_eq_true_eq, decide_eq_true_eq] at hp
      rcases hp with hp | hp
      all_goals
        (repeat (first | refine pl_pure hT rfl rfl rfl ?_ | refine pl_nil ?_ | refine rn_seq ?_ | refine rn_plain ?_ | refine rn_block ?_ | refine rn_inBlock ?_ | refine rn_skip ?_ | refine rn_true rfl ?_ | refine rn_false rfl ?_ | refine rn_exit rfl ?_ | refine pl_not rfl rfl ?_ | refine pl_val _ rfl rfl (val_load1 hT rfl rfl rfl (Blk.cell (by assumption) (by rfl))) ?_ | refine pl_yes rfl rfl rfl rfl rfl (by first | (simp only [cmpP]; omega) | (simp [cmpP]; done) | (simp [cmpP]; omega)) ?_ | refine pl_no rfl rfl rfl rfl rfl rfl (by first | (simp only [cmpP]; omega) | (simp [cmpP]; done) | (simp [cmpP]; omega)) ?_))
        have htl := bit_len hbit
        have hadd : i + ([c]).length ≤ l.length := by
          have := htl.2
          simp only [List.length_cons] at this ⊢
          omega
        refine pl_val _ rfl rfl (val_cut l i (i + ([c]).length) (by decide +kernel) rfl rfl rfl rfl rfl rfl (by omega) hadd w2) ?_
        rw [cut_tok hdrop hbit]
        (repeat (first | refine pl_pure hT rfl rfl rfl ?_ | refine pl_nil ?_ | refine rn_seq ?_ | refine rn_plain ?_ | refine rn_block ?_ | refine rn_inBlock ?_ | refine rn_skip ?_ | refine rn_true rfl ?_ | refine rn_false rfl ?_ | refine rn_exit rfl ?_ | refine pl_not rfl rfl ?_))
        refine pl_val _ rfl rfl (val_build _ rfl rfl (built_rtok2 ((i : Nat) : Int) (str ([c]))) w2) ?_
        refine pl_op rfl rfl (opTo_sliceN _ _ rfl rfl (slice_rtok _ _ _ _) ?_)
        intro w8 g8 hg8 hs8 hk8 hb8
        have hown8 := (hown).keep hk8 (by simp)
        have hF8 := hk8.blk hb2 (by simp)
        have hk08 := (hk2).tr hk8
        refine pl_op rfl rfl (opTo_app w.heap.size 33 4 40 (acc.flatMap tokL) (tokC ((i : Nat) : Int) ([c]) false 0) rfl rfl rfl (by decide +kernel) hown8 (hb8.range (by rfl)) rfl (tokC_one _ _ _ _) (by decide) (by simp only [maxLen]; omega) (by omega) hk08.size ?_)
        intro g9 cap9 w9 hown9 hor9
        have hk09 := app_tok hk08 hown8 hor9
        have hF9 := app_blk hF8 (own_ne hown8 hF8 (by decide)) hor9
        (repeat (first | refine pl_pure hT rfl rfl rfl ?_ | refine pl_nil ?_ | refine rn_seq ?_ | refine rn_plain ?_ | refine rn_block ?_ | refine rn_inBlock ?_ | refine rn_skip ?_ | refine rn_true rfl ?_ | refine rn_false rfl ?_ | refine rn_exit rfl ?_ | refine pl_not rfl rfl ?_))
        refine rn_sub ?_ (ih _ _ _ ?_ ⟨i + ([c]).length, acc ++ [⟨i, [c], false, 0⟩], .slice (some ⟨g9, 0, none⟩) (acc.length + 1) cap9, hadd, rfl, rfl, ?_, ?_, ?_, hF9, hk09⟩)
        · exact ⟨rfl, rfl, rfl, rfl, trivial⟩
        · have := htl.1
          omega
        · have := htl.1
          simp only [List.length_append, List.length_cons, List.length_nil] at this ⊢
          omega
        · rw [hdrop, putT_tok acc hbit hlen, ← hdrop, List.drop_drop] at hput
          exact hput
        · have e1 : (acc ++ [(⟨i, [c], false, 0⟩ : Tok)]).length = acc.length + 1 := by simp
          have e2 : (acc ++ [(⟨i, [c], false, 0⟩ : Tok)]).flatMap tokL = acc.flatMap tokL ++ tokC ((i : Nat) : Int) ([c]) false 0 := by
            rw [List.flatMap_append]
            rfl
          rw [e1, e2]
          exact hown9
    have hp' : parenB c = false := by simpa using hp
    have hpn : c.toNat ≠ 40 ∧ c.toNat ≠ 41 := by
      have h := hp'
      rw [paren_n] at h
      simpa using h
    obtain ⟨hp1, hp2⟩ := hpn
    (repeat (first | refine pl_pure hT rfl rfl rfl ?_ | refine pl_nil ?_ | refine rn_seq ?_ | refine rn_plain ?_ | refine rn_block ?_ | refine rn_inBlock ?_ | refine rn_skip ?_ | refine rn_true rfl ?_ | refine rn_false rfl ?_ | refine rn_exit rfl ?_ | refine pl_not rfl rfl ?_ | refine pl_val _ rfl rfl (val_load1 hT rfl rfl rfl (Blk.cell (by assumption) (by rfl))) ?_ | refine pl_yes rfl rfl rfl rfl rfl (by first | (simp only [cmpP]; omega) | (simp [cmpP]; done) | (simp [cmpP]; omega)) ?_ | refine pl_no rfl rfl rfl rfl rfl rfl (by first | (simp only [cmpP]; omega) | (simp [cmpP]; done) | (simp [cmpP]; omega)) ?_))
    refine pl_op rfl rfl (opTo_call (fst := []) (cap := []) rfl rfl rfl rfl (by decide +kernel) ((letterR_ret c w2).mono ?_))
    rintro x w3 ⟨rfl, rfl⟩
    cases hlet : letB c with
    | true =>
      have hbit := bit_word (r := r) hbl' hp' hlet
      (repeat (first | refine pl_pure hT rfl rfl rfl ?_ | refine pl_not rfl rfl ?_ | refine pl_nil ?_ | refine rn_inBlock ?_ | refine rn_skip ?_ | refine rn_true rfl ?_ | refine rn_false rfl ?_ | refine rn_exit rfl ?_))
      refine rn_seq ?_
      refine rn_with (fun σ' w' => w' = w3 ∧ ∃ j : Nat, j = i + (c :: r.takeWhile letB).length ∧ Sub [(0, .string (str l)), (3, .pointer (some ⟨b, 0, none⟩)), (4, v), (5, .int .i64 (i : Nat)), (7, .int .i64 (j : Nat))] σ') ?_ ?_
      rotate_left
      · intro fin
        refine rn_block ?_
        refine rn_ind (fun m σ w' => ∃ j : Nat, i + 1 ≤ j ∧ j ≤ l.length ∧ m = l.length - j ∧ σ = [(0, .string (str l)), (3, .pointer (some ⟨b, 0, none⟩)), (4, v), (5, .int .i64 (i : Nat)), (7, .int .i64 (j : Nat))] ∧ i + 1 + (r.takeWhile letB).length = j + ((l.drop j).takeWhile letB).length ∧ w' = w3) (l.length - (i + 1)) _ ?_
          ⟨i + 1, by omega, by omega, rfl, rfl, by rw [hdr], rfl⟩ ?_
        · exact ⟨rfl, rfl, rfl, rfl, rfl, trivial⟩
        rintro m σ w9 ih2 ⟨j, hj1, hj2, rfl, rfl, ht, rfl⟩
        (repeat (first | refine pl_pure hT rfl rfl rfl ?_ | refine pl_nil ?_ | refine rn_seq ?_ | refine rn_plain ?_ | refine rn_block ?_ | refine rn_inBlock ?_ | refine rn_skip ?_ | refine rn_true rfl ?_ | refine rn_false rfl ?_ | refine rn_exit rfl ?_ | refine pl_not rfl rfl ?_))
        refine pl_val _ rfl rfl (val_len l (by decide +kernel) rfl rfl w9) ?_
        by_cases hjl : j < l.length
        · refine pl_yes rfl rfl rfl rfl rfl (by first | (simp only [cmpP]; omega) | (simp [cmpP]; done) | (simp [cmpP]; omega)) ?_
          (repeat (first | refine pl_pure hT rfl rfl rfl ?_ | refine pl_nil ?_ | refine rn_seq ?_ | refine rn_plain ?_ | refine rn_block ?_ | refine rn_inBlock ?_ | refine rn_skip ?_ | refine rn_true rfl ?_ | refine rn_false rfl ?_ | refine rn_exit rfl ?_ | refine pl_not rfl rfl ?_))
          refine pl_val _ rfl rfl (val_byte l j l[j] (by decide +kernel) rfl rfl rfl rfl (List.getElem?_eq_getElem hjl) w9) ?_
          refine pl_op rfl rfl (opTo_call (fst := []) (cap := []) rfl rfl rfl rfl (by decide +kernel) ((letterR_ret l[j] w9).mono ?_))
          rintro x w10 ⟨rfl, rfl⟩
          rw [take_step hjl] at ht
          cases hpb : letB l[j] with
          | true =>
            rw [hpb, if_pos rfl, List.length_cons] at ht
            (repeat (first | refine pl_pure hT rfl rfl rfl ?_ | refine pl_nil ?_ | refine rn_seq ?_ | refine rn_plain ?_ | refine rn_block ?_ | refine rn_inBlock ?_ | refine rn_skip ?_ | refine rn_true rfl ?_ | refine rn_false rfl ?_ | refine rn_exit rfl ?_ | refine pl_not rfl rfl ?_))
            refine pl_num (((j + 1 : Nat) : Int)) rfl rfl rfl rfl rfl (by simp only [ariP]; omega) ?_
            (repeat (first | refine pl_pure hT rfl rfl rfl ?_ | refine pl_nil ?_ | refine rn_seq ?_ | refine rn_plain ?_ | refine rn_block ?_ | refine rn_inBlock ?_ | refine rn_skip ?_ | refine rn_true rfl ?_ | refine rn_false rfl ?_ | refine rn_exit rfl ?_ | refine pl_not rfl rfl ?_))
            refine rn_sub ?_ (ih2 _ _ _ ?_ ⟨j + 1, by omega, hjl, rfl, rfl, by omega, rfl⟩)
            · exact ⟨rfl, rfl, rfl, rfl, rfl, trivial⟩
            · omega
          | false =>
            rw [hpb, if_neg (by decide), List.length_nil] at ht
            (repeat (first | refine pl_pure hT rfl rfl rfl ?_ | refine pl_not rfl rfl ?_ | refine pl_nil ?_ | refine rn_inBlock ?_ | refine rn_skip ?_ | refine rn_true rfl ?_ | refine rn_false rfl ?_ | refine rn_exit rfl ?_))
            have ej : j = i + (c :: r.takeWhile letB).length := by simp only [List.length_cons]; omega
            exact fin _ _ ⟨rfl, j, ej, rfl, rfl, rfl, rfl, rfl, trivial⟩
        · refine pl_no rfl rfl rfl rfl rfl rfl (by first | (simp only [cmpP]; omega) | (simp [cmpP]; done) | (simp [cmpP]; omega)) ?_
          (repeat (first | refine pl_pure hT rfl rfl rfl ?_ | refine pl_not rfl rfl ?_ | refine pl_nil ?_ | refine rn_inBlock ?_ | refine rn_skip ?_ | refine rn_true rfl ?_ | refine rn_false rfl ?_ | refine rn_exit rfl ?_))
          have e : j = l.length := by omega
          rw [e, List.drop_length] at ht
          have ej : j = i + (c :: r.takeWhile letB).length := by
            simp only [List.length_cons]
            simp at ht
            omega
          exact fin _ _ ⟨rfl, j, ej, rfl, rfl, rfl, rfl, rfl, trivial⟩
      rintro σ' w5 ⟨rfl, j, rfl, hsub⟩
      refine rn_sub hsub ?_
      (repeat (first | refine pl_pure hT rfl rfl rfl ?_ | refine pl_nil ?_ | refine rn_seq ?_ | refine rn_plain ?_ | refine rn_block ?_ | refine rn_inBlock ?_ | refine rn_skip ?_ | refine rn_true rfl ?_ | refine rn_false rfl ?_ | refine rn_exit rfl ?_ | refine pl_not rfl rfl ?_))
      have htl := bit_len hbit
      have hadd : i + (c :: r.takeWhile letB).length ≤ l.length := by
        have := htl.2
        simp only [List.length_cons] at this ⊢
        omega
      refine pl_val _ rfl rfl (val_cut l i (i + (c :: r.takeWhile letB).length) (by decide +kernel) rfl rfl rfl rfl rfl rfl (by omega) hadd w5) ?_
      rw [cut_tok hdrop hbit]
      (repeat (first | refine pl_pure hT rfl rfl rfl ?_ | refine pl_nil ?_ | refine rn_seq ?_ | refine rn_plain ?_ | refine rn_block ?_ | refine rn_inBlock ?_ | refine rn_skip ?_ | refine rn_true rfl ?_ | refine rn_false rfl ?_ | refine rn_exit rfl ?_ | refine pl_not rfl rfl ?_))
      refine pl_val _ rfl rfl (val_build _ rfl rfl (built_rtok2 ((i : Nat) : Int) (str (c :: r.takeWhile letB))) w5) ?_
      refine pl_op rfl rfl (opTo_sliceN _ _ rfl rfl (slice_rtok _ _ _ _) ?_)
      intro w8 g8 hg8 hs8 hk8 hb8
      have hown8 := (hown).keep hk8 (by simp)
      have hF8 := hk8.blk hb2 (by simp)
      have hk08 := (hk2).tr hk8
      refine pl_op rfl rfl (opTo_app w.heap.size 33 4 40 (acc.flatMap tokL) (tokC ((i : Nat) : Int) (c :: r.takeWhile letB) false 0) rfl rfl rfl (by decide +kernel) hown8 (hb8.range (by rfl)) rfl (tokC_one _ _ _ _) (by decide) (by simp only [maxLen]; omega) (by omega) hk08.size ?_)
      intro g9 cap9 w9 hown9 hor9
      have hk09 := app_tok hk08 hown8 hor9
      have hF9 := app_blk hF8 (own_ne hown8 hF8 (by decide)) hor9
      (repeat (first | refine pl_pure hT rfl rfl rfl ?_ | refine pl_nil ?_ | refine rn_seq ?_ | refine rn_plain ?_ | refine rn_block ?_ | refine rn_inBlock ?_ | refine rn_skip ?_ | refine rn_true rfl ?_ | refine rn_false rfl ?_ | refine rn_exit rfl ?_ | refine pl_not rfl rfl ?_))
      refine rn_sub ?_ (ih _ _ _ ?_ ⟨i + (c :: r.takeWhile letB).length, acc ++ [⟨i, c :: r.takeWhile letB, false, 0⟩], .slice (some ⟨g9, 0, none⟩) (acc.length + 1) cap9, hadd, rfl, rfl, ?_, ?_, ?_, hF9, hk09⟩)
      · exact ⟨rfl, rfl, rfl, rfl, trivial⟩
      · have := htl.1
        omega
      · have := htl.1
        simp only [List.length_append, List.length_cons, List.length_nil] at this ⊢
        omega
      · rw [hdrop, putT_tok acc hbit hlen, ← hdrop, List.drop_drop] at hput
        exact hput
      · have e1 : (acc ++ [(⟨i, c :: r.takeWhile letB, false, 0⟩ : Tok)]).length = acc.length + 1 := by simp
        have e2 : (acc ++ [(⟨i, c :: r.takeWhile letB, false, 0⟩ : Tok)]).flatMap tokL = acc.flatMap tokL ++ tokC ((i : Nat) : Int) (c :: r.takeWhile letB) false 0 := by
          rw [List.flatMap_append]
          rfl
        rw [e1, e2]
        exact hown9
    | false =>
      (repeat (first | refine pl_pure hT rfl rfl rfl ?_ | refine pl_nil ?_ | refine rn_seq ?_ | refine rn_plain ?_ | refine rn_block ?_ | refine rn_inBlock ?_ | refine rn_skip ?_ | refine rn_true rfl ?_ | refine rn_false rfl ?_ | refine rn_exit rfl ?_ | refine pl_not rfl rfl ?_))
      refine pl_op rfl rfl (opTo_call (fst := []) (cap := []) rfl rfl rfl rfl (by decide +kernel) ((digitR_ret c w3).mono ?_))
      rintro x w4 ⟨rfl, rfl⟩
      by_cases hd : (dig c || c == 45) = true
      · have hbn := bit_num (r := r) hbl' hp' hlet hd
        have hd2 : dig c = true ∨ (dig c = false ∧ c.toNat = 45) := by
          rw [dash_n] at hd
          cases h : dig c with
          | true => exact .inl rfl
          | false => rw [h] at hd; exact .inr ⟨rfl, by simpa using hd⟩
        rcases hd2 with hdc | ⟨hdc, hdash⟩
        all_goals
          rw [hdc]
          (repeat (first | refine pl_pure hT rfl rfl rfl ?_ | refine pl_nil ?_ | refine rn_inBlock ?_ | refine rn_skip ?_ | refine rn_true rfl ?_ | refine rn_false rfl ?_ | refine rn_exit rfl ?_ | refine pl_not rfl rfl ?_ | refine pl_val _ rfl rfl (val_load1 hT rfl rfl rfl (Blk.cell (by assumption) (by rfl))) ?_ | refine pl_yes rfl rfl rfl rfl rfl (by first | (simp only [cmpP]; omega) | (simp [cmpP]; done) | (simp [cmpP]; omega)) ?_ | refine pl_no rfl rfl rfl rfl rfl rfl (by first | (simp only [cmpP]; omega) | (simp [cmpP]; done) | (simp [cmpP]; omega)) ?_))
          refine rn_seq ?_
          refine rn_with (fun σ' w' => w' = w4 ∧ ∃ j : Nat, j = i + (c :: r.takeWhile dig).length ∧ Sub [(0, .string (str l)), (3, .pointer (some ⟨b, 0, none⟩)), (4, v), (5, .int .i64 (i : Nat)), (7, .int .i64 (j : Nat))] σ') ?_ ?_
          rotate_left
          · intro fin
            refine rn_block ?_
            refine rn_ind (fun m σ w' => ∃ j : Nat, i + 1 ≤ j ∧ j ≤ l.length ∧ m = l.length - j ∧ σ = [(0, .string (str l)), (3, .pointer (some ⟨b, 0, none⟩)), (4, v), (5, .int .i64 (i : Nat)), (7, .int .i64 (j : Nat))] ∧ i + 1 + (r.takeWhile dig).length = j + ((l.drop j).takeWhile dig).length ∧ w' = w4) (l.length - (i + 1)) _ ?_
              ⟨i + 1, by omega, by omega, rfl, rfl, by rw [hdr], rfl⟩ ?_
            · exact ⟨rfl, rfl, rfl, rfl, rfl, trivial⟩
            rintro m σ w9 ih2 ⟨j, hj1, hj2, rfl, rfl, ht, rfl⟩
            (repeat (first | refine pl_pure hT rfl rfl rfl ?_ | refine pl_nil ?_ | refine rn_seq ?_ | refine rn_plain ?_ | refine rn_block ?_ | refine rn_inBlock ?_ | refine rn_skip ?_ | refine rn_true rfl ?_ | refine rn_false rfl ?_ | refine rn_exit rfl ?_ | refine pl_not rfl rfl ?_))
            refine pl_val _ rfl rfl (val_len l (by decide +kernel) rfl rfl w9) ?_
            by_cases hjl : j < l.length
            · refine pl_yes rfl rfl rfl rfl rfl (by first | (simp only [cmpP]; omega) | (simp [cmpP]; done) | (simp [cmpP]; omega)) ?_
              (repeat (first | refine pl_pure hT rfl rfl rfl ?_ | refine pl_nil ?_ | refine rn_seq ?_ | refine rn_plain ?_ | refine rn_block ?_ | refine rn_inBlock ?_ | refine rn_skip ?_ | refine rn_true rfl ?_ | refine rn_false rfl ?_ | refine rn_exit rfl ?_ | refine pl_not rfl rfl ?_))
              refine pl_val _ rfl rfl (val_byte l j l[j] (by decide +kernel) rfl rfl rfl rfl (List.getElem?_eq_getElem hjl) w9) ?_
              refine pl_op rfl rfl (opTo_call (fst := []) (cap := []) rfl rfl rfl rfl (by decide +kernel) ((digitR_ret l[j] w9).mono ?_))
              rintro x w10 ⟨rfl, rfl⟩
              rw [take_step hjl] at ht
              cases hpb : dig l[j] with
              | true =>
                rw [hpb, if_pos rfl, List.length_cons] at ht
                (repeat (first | refine pl_pure hT rfl rfl rfl ?_ | refine pl_nil ?_ | refine rn_seq ?_ | refine rn_plain ?_ | refine rn_block ?_ | refine rn_inBlock ?_ | refine rn_skip ?_ | refine rn_true rfl ?_ | refine rn_false rfl ?_ | refine rn_exit rfl ?_ | refine pl_not rfl rfl ?_))
                refine pl_num (((j + 1 : Nat) : Int)) rfl rfl rfl rfl rfl (by simp only [ariP]; omega) ?_
                (repeat (first | refine pl_pure hT rfl rfl rfl ?_ | refine pl_nil ?_ | refine rn_seq ?_ | refine rn_plain ?_ | refine rn_block ?_ | refine rn_inBlock ?_ | refine rn_skip ?_ | refine rn_true rfl ?_ | refine rn_false rfl ?_ | refine rn_exit rfl ?_ | refine pl_not rfl rfl ?_))
                refine rn_sub ?_ (ih2 _ _ _ ?_ ⟨j + 1, by omega, hjl, rfl, rfl, by omega, rfl⟩)
                · exact ⟨rfl, rfl, rfl, rfl, rfl, trivial⟩
                · omega
              | false =>
                rw [hpb, if_neg (by decide), List.length_nil] at ht
                (repeat (first | refine pl_pure hT rfl rfl rfl ?_ | refine pl_not rfl rfl ?_ | refine pl_nil ?_ | refine rn_inBlock ?_ | refine rn_skip ?_ | refine rn_true rfl ?_ | refine rn_false rfl ?_ | refine rn_exit rfl ?_))
                have ej : j = i + (c :: r.takeWhile dig).length := by simp only [List.length_cons]; omega
                exact fin _ _ ⟨rfl, j, ej, rfl, rfl, rfl, rfl, rfl, trivial⟩
            · refine pl_no rfl rfl rfl rfl rfl rfl (by first | (simp only [cmpP]; omega) | (simp [cmpP]; done) | (simp [cmpP]; omega)) ?_
              (repeat (first | refine pl_pure hT rfl rfl rfl ?_ | refine pl_not rfl rfl ?_ | refine pl_nil ?_ | refine rn_inBlock ?_ | refine rn_skip ?_ | refine rn_true rfl ?_ | refine rn_false rfl ?_ | refine rn_exit rfl ?_))
              have e : j = l.length := by omega
              rw [e, List.drop_length] at ht
              have ej : j = i + (c :: r.takeWhile dig).length := by
                simp only [List.length_cons]
                simp at ht
                omega
              exact fin _ _ ⟨rfl, j, ej, rfl, rfl, rfl, rfl, rfl, trivial⟩
          rintro σ' w5 ⟨rfl, j, rfl, hsub⟩
          refine rn_sub hsub ?_
          (repeat (first | refine pl_pure hT rfl rfl rfl ?_ | refine pl_nil ?_ | refine rn_seq ?_ | refine rn_plain ?_ | refine rn_block ?_ | refine rn_inBlock ?_ | refine rn_skip ?_ | refine rn_true rfl ?_ | refine rn_false rfl ?_ | refine rn_exit rfl ?_ | refine pl_not rfl rfl ?_))
          refine pl_val _ rfl rfl (val_cut l i (i + (c :: r.takeWhile dig).length) (by decide +kernel) rfl rfl rfl rfl rfl rfl (by omega) (by simp only [List.length_cons]; omega) w5) ?_
          have hcut : (l.drop i).take (i + (c :: r.takeWhile dig).length - i) = c :: r.takeWhile dig := by
            rw [hdrop, Nat.add_sub_cancel_left, List.length_cons, List.take_succ_cons, take_while]
          rw [hcut]
          refine pl_op rfl rfl (opTo_call (fst := []) (cap := []) rfl rfl rfl rfl (by decide +kernel) ((longR_ret (c :: r.takeWhile dig) (by simp only [List.length_cons]; omega) (hw.keep hk2)).mono ?_))
          rintro x w6 ⟨rfl, hk6⟩
          have hb6 := hk6.blk hb2 (by simp)
          have hown6 := hown.keep hk6 (by simp)
          have hk06 := hk2.tr hk6
          unfold longV
          cases hL : longOf (c :: r.takeWhile dig) with
          | none =>
            rw [hL] at hbn
            (repeat (first | refine pl_pure hT rfl rfl rfl ?_ | refine pl_nil ?_ | refine rn_seq ?_ | refine rn_plain ?_ | refine rn_block ?_ | refine rn_inBlock ?_ | refine rn_skip ?_ | refine rn_true rfl ?_ | refine rn_false rfl ?_ | refine rn_exit rfl ?_ | refine pl_not rfl rfl ?_))
            refine pl_op rfl rfl (opTo_call (fst := []) (cap := []) rfl rfl rfl rfl (by decide +kernel) ((faultR_ret 7 ((i : Nat) : Int) w6).mono ?_))
            rintro x w7 ⟨rfl, hk7⟩
            have hb7 := hk7.blk hb6 (by simp)
            (repeat (first | refine pl_pure hT rfl rfl rfl ?_ | refine pl_nil ?_ | refine rn_seq ?_ | refine rn_plain ?_ | refine rn_block ?_ | refine rn_inBlock ?_ | refine rn_skip ?_ | refine rn_true rfl ?_ | refine rn_false rfl ?_ | refine rn_exit rfl ?_ | refine pl_not rfl rfl ?_))
            refine pl_op rfl rfl (opTo_storeN [.int .i64 7, .int .i64 ((i : Nat) : Int)] rfl rfl rfl rfl size_fault hb7 (by simp) (one_fault _ _) ?_)
            intro w8 hs8 hk8 hb8
            rw [splice_whole (by rfl)] at hb8
            (repeat (first | refine pl_pure hT rfl rfl rfl ?_ | refine pl_nil ?_ | refine rn_seq ?_ | refine rn_plain ?_ | refine rn_block ?_ | refine rn_inBlock ?_ | refine rn_skip ?_ | refine rn_true rfl ?_ | refine rn_false rfl ?_ | refine rn_exit rfl ?_ | refine pl_not rfl rfl ?_))
            rw [hdrop, toks_bad hbn hlen] at hput
            obtain ⟨e1, e2⟩ := faultOf_error hgt hput.symm
            refine rn_retTC Tryd.func7 rfl rfl rfl (blk_loadVar hT hb8 rfl) ⟨.slice none 0 0, ?_, ?_, (hk06.tr hk7).trB hk8 (by omega)⟩
            · rw [e1]
            · rw [e2]
              exact Own.nil _ _ _ _
          | some z =>
            rw [hL] at hbn
            have hbit : bit c r = .tok (c :: r.takeWhile dig) true z := hbn
            (repeat (first | refine pl_pure hT rfl rfl rfl ?_ | refine pl_nil ?_ | refine rn_seq ?_ | refine rn_plain ?_ | refine rn_block ?_ | refine rn_inBlock ?_ | refine rn_skip ?_ | refine rn_true rfl ?_ | refine rn_false rfl ?_ | refine rn_exit rfl ?_ | refine pl_not rfl rfl ?_))
            have htl := bit_len hbit
            have hadd : i + (c :: r.takeWhile dig).length ≤ l.length := by
              have := htl.2
              simp only [List.length_cons] at this ⊢
              omega
            refine pl_val _ rfl rfl (val_cut l i (i + (c :: r.takeWhile dig).length) (by decide +kernel) rfl rfl rfl rfl rfl rfl (by omega) hadd w6) ?_
            rw [cut_tok hdrop hbit]
            (repeat (first | refine pl_pure hT rfl rfl rfl ?_ | refine pl_nil ?_ | refine rn_seq ?_ | refine rn_plain ?_ | refine rn_block ?_ | refine rn_inBlock ?_ | refine rn_skip ?_ | refine rn_true rfl ?_ | refine rn_false rfl ?_ | refine rn_exit rfl ?_ | refine pl_not rfl rfl ?_))
            refine pl_val _ rfl rfl (val_build _ rfl rfl (built_rtok4 ((i : Nat) : Int) (str (c :: r.takeWhile dig)) z) w6) ?_
            refine pl_op rfl rfl (opTo_sliceN _ _ rfl rfl (slice_rtok _ _ _ _) ?_)
            intro w8 g8 hg8 hs8 hk8 hb8
            have hown8 := (hown6).keep hk8 (by simp)
            have hF8 := hk8.blk hb6 (by simp)
            have hk08 := (hk06).tr hk8
            refine pl_op rfl rfl (opTo_app w.heap.size 33 4 40 (acc.flatMap tokL) (tokC ((i : Nat) : Int) (c :: r.takeWhile dig) true z) rfl rfl rfl (by decide +kernel) hown8 (hb8.range (by rfl)) rfl (tokC_one _ _ _ _) (by decide) (by simp only [maxLen]; omega) (by omega) hk08.size ?_)
            intro g9 cap9 w9 hown9 hor9
            have hk09 := app_tok hk08 hown8 hor9
            have hF9 := app_blk hF8 (own_ne hown8 hF8 (by decide)) hor9
            (repeat (first | refine pl_pure hT rfl rfl rfl ?_ | refine pl_nil ?_ | refine rn_seq ?_ | refine rn_plain ?_ | refine rn_block ?_ | refine rn_inBlock ?_ | refine rn_skip ?_ | refine rn_true rfl ?_ | refine rn_false rfl ?_ | refine rn_exit rfl ?_ | refine pl_not rfl rfl ?_))
            refine rn_sub ?_ (ih _ _ _ ?_ ⟨i + (c :: r.takeWhile dig).length, acc ++ [⟨i, c :: r.takeWhile dig, true, z⟩], .slice (some ⟨g9, 0, none⟩) (acc.length + 1) cap9, hadd, rfl, rfl, ?_, ?_, ?_, hF9, hk09⟩)
            · exact ⟨rfl, rfl, rfl, rfl, trivial⟩
            · have := htl.1
              omega
            · have := htl.1
              simp only [List.length_append, List.length_cons, List.length_nil] at this ⊢
              omega
            · rw [hdrop, putT_tok acc hbit hlen, ← hdrop, List.drop_drop] at hput
              exact hput
            · have e1 : (acc ++ [(⟨i, c :: r.takeWhile dig, true, z⟩ : Tok)]).length = acc.length + 1 := by simp
              have e2 : (acc ++ [(⟨i, c :: r.takeWhile dig, true, z⟩ : Tok)]).flatMap tokL = acc.flatMap tokL ++ tokC ((i : Nat) : Int) (c :: r.takeWhile dig) true z := by
                rw [List.flatMap_append]
                rfl
              rw [e1, e2]
              exact hown9
      · have hd' : (dig c || c == 45) = false := by simpa using hd
        have hbit := bit_none (r := r) hbl' hp' hlet hd'
        have hdc : dig c = false := by
          cases h : dig c with
          | true => rw [h] at hd'; cases hd'
          | false => rfl
        have hdash : c.toNat ≠ 45 := by
          rw [hdc, dash_n] at hd'
          simpa using hd'
        rw [hdc]
        (repeat (first | refine pl_pure hT rfl rfl rfl ?_ | refine pl_nil ?_ | refine rn_seq ?_ | refine rn_plain ?_ | refine rn_block ?_ | refine rn_inBlock ?_ | refine rn_skip ?_ | refine rn_true rfl ?_ | refine rn_false rfl ?_ | refine rn_exit rfl ?_ | refine pl_not rfl rfl ?_ | refine pl_val _ rfl rfl (val_load1 hT rfl rfl rfl (Blk.cell (by assumption) (by rfl))) ?_ | refine pl_yes rfl rfl rfl rfl rfl (by first | (simp only [cmpP]; omega) | (simp [cmpP]; done) | (simp [cmpP]; omega)) ?_ | refine pl_no rfl rfl rfl rfl rfl rfl (by first | (simp only [cmpP]; omega) | (simp [cmpP]; done) | (simp [cmpP]; omega)) ?_))
        refine pl_op rfl rfl (opTo_call (fst := []) (cap := []) rfl rfl rfl rfl (by decide +kernel) ((faultR_ret 7 ((i : Nat) : Int) w4).mono ?_))
        rintro x w7 ⟨rfl, hk7⟩
        have hb7 := hk7.blk hb2 (by simp)
        (repeat (first | refine pl_pure hT rfl rfl rfl ?_ | refine pl_nil ?_ | refine rn_seq ?_ | refine rn_plain ?_ | refine rn_block ?_ | refine rn_inBlock ?_ | refine rn_skip ?_ | refine rn_true rfl ?_ | refine rn_false rfl ?_ | refine rn_exit rfl ?_ | refine pl_not rfl rfl ?_))
        refine pl_op rfl rfl (opTo_storeN [.int .i64 7, .int .i64 ((i : Nat) : Int)] rfl rfl rfl rfl size_fault hb7 (by simp) (one_fault _ _) ?_)
        intro w8 hs8 hk8 hb8
        rw [splice_whole (by rfl)] at hb8
        (repeat (first | refine pl_pure hT rfl rfl rfl ?_ | refine pl_nil ?_ | refine rn_seq ?_ | refine rn_plain ?_ | refine rn_block ?_ | refine rn_inBlock ?_ | refine rn_skip ?_ | refine rn_true rfl ?_ | refine rn_false rfl ?_ | refine rn_exit rfl ?_ | refine pl_not rfl rfl ?_))
        rw [hdrop, toks_bad hbit hlen] at hput
        obtain ⟨e1, e2⟩ := faultOf_error hgt hput.symm
        refine rn_retTC Tryd.func7 rfl rfl rfl (blk_loadVar hT hb8 rfl) ⟨.slice none 0 0, ?_, ?_, (hk2.tr hk7).trB hk8 (by omega)⟩
        · rw [e1]
        · rw [e2]
          exact Own.nil _ _ _ _
  · refine pl_no rfl rfl rfl rfl rfl rfl (by first | (simp only [cmpP]; omega) | (simp [cmpP]; done) | (simp [cmpP]; omega)) ?_
    (repeat (first | refine pl_pure hT rfl rfl rfl ?_ | refine pl_nil ?_ | refine rn_seq ?_ | refine rn_plain ?_ | refine rn_block ?_ | refine rn_inBlock ?_ | refine rn_skip ?_ | refine rn_true rfl ?_ | refine rn_false rfl ?_ | refine rn_exit rfl ?_ | refine pl_not rfl rfl ?_))
    refine pl_val _ rfl rfl (val_build _ rfl rfl built_fault0 w2) ?_
    (repeat (first | refine pl_pure hT rfl rfl rfl ?_ | refine pl_nil ?_ | refine rn_seq ?_ | refine rn_plain ?_ | refine rn_block ?_ | refine rn_inBlock ?_ | refine rn_skip ?_ | refine rn_true rfl ?_ | refine rn_false rfl ?_ | refine rn_exit rfl ?_ | refine pl_not rfl rfl ?_))
    refine pl_op rfl rfl (opTo_storeN [.int .i64 0, .int .i64 0] rfl rfl rfl rfl size_fault hb2 (by simp) (one_fault _ _) ?_)
    intro w3 hs3 hk3 hb3
    rw [splice_whole (by rfl)] at hb3
    (repeat (first | refine pl_pure hT rfl rfl rfl ?_ | refine pl_nil ?_ | refine rn_seq ?_ | refine rn_plain ?_ | refine rn_block ?_ | refine rn_inBlock ?_ | refine rn_skip ?_ | refine rn_true rfl ?_ | refine rn_false rfl ?_ | refine rn_exit rfl ?_ | refine pl_not rfl rfl ?_))
    have hi' : i = l.length := by omega
    have hput2 : scanOf l = .ok acc := by
      rw [← hput, hi', List.drop_length]
      have : toks l.length l.length [] = .ok [] := by cases l.length <;> rfl
      rw [this]
      show Except.ok (acc ++ []) = _
      rw [List.append_nil]
    obtain ⟨e1, e2⟩ := faultOf_ok hgt hput2
    refine rn_retTC Tryd.func7 rfl rfl rfl (blk_loadVar hT hb3 rfl) ⟨v, ?_, ?_, hk2.trB hk3 (by omega)⟩
    · rw [e1]
    · rw [e2]
      exact hown.keep hk3 (by intro k hk; simp; exact fun h => own_ne hown hb2 (by decide) k hk h.symm)
end E
end Go.Proofs.YthidfgolcibcoacDoor
