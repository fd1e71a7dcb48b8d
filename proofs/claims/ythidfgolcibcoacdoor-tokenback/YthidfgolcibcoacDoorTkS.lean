/- TokenScans walked: it tells true. -/
import Derived.Test.YthidfgolcibcoacDoorTkE
import Derived.Test.YthidfgolcibcoacDoorTkF
namespace Go.Proofs.YthidfgolcibcoacDoor
set_option maxRecDepth 20000
set_option maxHeartbeats 4000000
namespace E
open Go.Proofs

theorem textLen_ge : ∀ (ts : List Tok), fine ts → ts.length ≤ textLen ts
  | [], _ => Nat.le_refl _
  | t :: r, h => by
    have ih := textLen_ge r h.2
    obtain ⟨c, u, r0, h1, _⟩ := h.1
    simp only [textLen, List.length_cons, h1]
    omega
theorem toksOf_len (l : List UInt8) : (toksOf l).length ≤ 1000000 := by
  unfold toksOf
  split
  · exact Nat.zero_le _
  · rename_i hn
    split
    · exact Nat.zero_le _
    · rename_i ts h
      have ⟨h1, h2⟩ := toks_fine _ _ _ _ h
      have := textLen_ge ts h1
      omega

theorem tok_range {w : World} {B e n i : Nat} {v : Value} {ts : List Tok} {t : Tok} (h : Own w B e 4 v n (ts.flatMap tokL)) (hn : n = ts.length) (ht : ts[i]? = some t) : ∃ g cap, v = .slice (some ⟨g, 0, none⟩) n cap ∧ w.rangeAt g (0 + i * 4) (tokL t) := by
  have hi := (List.getElem?_eq_some_iff.1 ht).1
  have hf := flat_at (f := tokL) (k := 4) (fun p _ => tokL_length p) ht
  obtain ⟨g, cap, hv, hr⟩ := h.range (q := i * 4) (cs := tokL t) (by rw [tokL_length]; exact hf) (by omega)
  rw [Nat.zero_add]
  exact ⟨g, cap, hv, hr⟩

theorem scans_ret (l : List UInt8) {w : World} (hw : Lw w) : Ret Tryd.prog 3 [.string (str l)] w fun r w' => r = .bool true ∧ Keep [] w w' := by
  refine ret_of 89 Tryd.func3 rfl rfl (by simp) ?_
  (repeat (first | refine pl_pure hT rfl rfl rfl ?_ | refine pl_nil ?_ | refine rn_seq ?_ | refine rn_plain ?_ | refine rn_block ?_ | refine rn_inBlock ?_ | refine rn_skip ?_ | refine rn_true rfl ?_ | refine rn_false rfl ?_ | refine rn_exit rfl ?_ | refine pl_not rfl rfl ?_))
  refine pl_op rfl rfl (opTo_call (fst := []) (cap := []) rfl rfl rfl rfl (by decide +kernel) ((begun_ret hw).mono ?_))
  rintro x w1 ⟨rfl, hk1⟩
  (repeat (first | refine pl_pure hT rfl rfl rfl ?_ | refine pl_nil ?_ | refine rn_seq ?_ | refine rn_plain ?_ | refine rn_block ?_ | refine rn_inBlock ?_ | refine rn_skip ?_ | refine rn_true rfl ?_ | refine rn_false rfl ?_ | refine rn_exit rfl ?_ | refine pl_not rfl rfl ?_))
  refine pl_val _ rfl rfl (val_len l (by decide +kernel) rfl rfl w1) ?_
  by_cases hgt : 9000 < l.length
  · refine pl_yes rfl rfl rfl rfl rfl (by first | (simp only [cmpP]; omega) | (simp [cmpP]; done) | (simp [cmpP]; omega)) ?_
    (repeat (first | refine pl_pure hT rfl rfl rfl ?_ | refine pl_nil ?_ | refine rn_seq ?_ | refine rn_plain ?_ | refine rn_block ?_ | refine rn_inBlock ?_ | refine rn_skip ?_ | refine rn_true rfl ?_ | refine rn_false rfl ?_ | refine rn_exit rfl ?_ | refine pl_not rfl rfl ?_))
    exact rn_ret Tryd.func3 (.inl ⟨_, rfl, rfl⟩) ⟨rfl, hk1⟩
  refine pl_no rfl rfl rfl rfl rfl rfl (by first | (simp only [cmpP]; omega) | (simp [cmpP]; done) | (simp [cmpP]; omega)) ?_
  (repeat (first | refine pl_pure hT rfl rfl rfl ?_ | refine pl_nil ?_ | refine rn_seq ?_ | refine rn_plain ?_ | refine rn_block ?_ | refine rn_inBlock ?_ | refine rn_skip ?_ | refine rn_true rfl ?_ | refine rn_false rfl ?_ | refine rn_exit rfl ?_ | refine pl_not rfl rfl ?_))
  refine pl_op rfl rfl (opTo_call (fst := []) (cap := []) rfl rfl rfl rfl (by decide +kernel) ((scan_ret l (by omega) (hw.keep hk1)).mono ?_))
  rintro x w2 ⟨v, rfl, hown, hk2⟩
  obtain ⟨⟨fa, fb⟩, hfab⟩ : ∃ p, p = faultOf l := ⟨_, rfl⟩
  rw [← hfab]
  (repeat (first | refine pl_pure hT rfl rfl rfl ?_ | refine pl_nil ?_ | refine rn_seq ?_ | refine rn_plain ?_ | refine rn_block ?_ | refine rn_inBlock ?_ | refine rn_skip ?_ | refine rn_true rfl ?_ | refine rn_false rfl ?_ | refine rn_exit rfl ?_ | refine pl_not rfl rfl ?_))
  refine pl_op rfl rfl (opTo_allocN _ rfl zero_fault ?_)
  intro w3 a ha hs3 hk3 hA3
  (repeat (first | refine pl_pure hT rfl rfl rfl ?_ | refine pl_nil ?_ | refine rn_seq ?_ | refine rn_plain ?_ | refine rn_block ?_ | refine rn_inBlock ?_ | refine rn_skip ?_ | refine rn_true rfl ?_ | refine rn_false rfl ?_ | refine rn_exit rfl ?_ | refine pl_not rfl rfl ?_))
  refine pl_op rfl rfl (opTo_storeN [.int .i64 fa, .int .i64 fb] rfl rfl rfl rfl size_fault hA3 (by simp) (one_fault _ _) ?_)
  intro w4 hs4 hk4 hA4
  rw [splice_whole (by rfl)] at hA4
  have hk24 : Keep [] w2 w4 := hk3.trB hk4 (by omega)
  have hown4 := hown.keep hk24 (by simp)
  have hk04 := (hk1.tr hk2).tr hk24
  (repeat (first | refine pl_pure hT rfl rfl rfl ?_ | refine pl_nil ?_ | refine rn_seq ?_ | refine rn_plain ?_ | refine rn_block ?_ | refine rn_inBlock ?_ | refine rn_skip ?_ | refine rn_true rfl ?_ | refine rn_false rfl ?_ | refine rn_exit rfl ?_ | refine pl_not rfl rfl ?_))
  refine pl_op rfl rfl (opTo_call (fst := []) (cap := []) rfl rfl rfl rfl (by decide +kernel) ((scanR_ret l (by omega) (hw.keep hk04)).mono ?_))
  rintro x w5 ⟨u, rfl, hownR, hk5⟩
  rw [← hfab]
  (repeat (first | refine pl_pure hT rfl rfl rfl ?_ | refine pl_nil ?_ | refine rn_seq ?_ | refine rn_plain ?_ | refine rn_block ?_ | refine rn_inBlock ?_ | refine rn_skip ?_ | refine rn_true rfl ?_ | refine rn_false rfl ?_ | refine rn_exit rfl ?_ | refine pl_not rfl rfl ?_))
  refine pl_op rfl rfl (opTo_allocN _ rfl zero_fault ?_)
  intro w6 c hc hs6 hk6 hC6
  (repeat (first | refine pl_pure hT rfl rfl rfl ?_ | refine pl_nil ?_ | refine rn_seq ?_ | refine rn_plain ?_ | refine rn_block ?_ | refine rn_inBlock ?_ | refine rn_skip ?_ | refine rn_true rfl ?_ | refine rn_false rfl ?_ | refine rn_exit rfl ?_ | refine pl_not rfl rfl ?_))
  refine pl_op rfl rfl (opTo_storeN [.int .i64 fa, .int .i64 fb] rfl rfl rfl rfl size_fault hC6 (by simp) (one_fault _ _) ?_)
  intro w7 hs7 hk7 hC7
  rw [splice_whole (by rfl)] at hC7
  have hk57 : Keep [] w5 w7 := hk6.trB hk7 (by omega)
  have hownR7 := hownR.keep hk57 (by simp)
  have hown7 := (hown4.keep hk5 (by simp)).keep hk57 (by simp)
  have hA7 := hk57.blk (hk5.blk hA4 (by simp)) (by simp)
  have hk07 := (hk04.tr hk5).tr hk57
  (repeat (first | refine pl_pure hT rfl rfl rfl ?_ | refine pl_nil ?_ | refine rn_seq ?_ | refine rn_plain ?_ | refine rn_block ?_ | refine rn_inBlock ?_ | refine rn_skip ?_ | refine rn_true rfl ?_ | refine rn_false rfl ?_ | refine rn_exit rfl ?_ | refine pl_not rfl rfl ?_))
  refine pl_val _ rfl rfl (val_load [.int .i64 fa, .int .i64 fb] hT rfl rfl rfl (hA7.range (by rfl))) ?_
  refine pl_val _ rfl rfl (val_load [.int .i64 fa, .int .i64 fb] hT rfl rfl rfl (hC7.range (by rfl))) ?_
  refine pl_val _ rfl rfl (val_neTwo fa fa fb fb false (by decide +kernel) rfl rfl rfl (by simp) w7) ?_
  obtain ⟨av, cv, rfl⟩ := hown7.form
  obtain ⟨au, cu, rfl⟩ := hownR7.form
  obtain ⟨ts, hts⟩ : ∃ ts, ts = toksOf l := ⟨_, rfl⟩
  have hlen : ts.length ≤ 1000000 := by
    rw [hts]
    exact toksOf_len l
  rw [← hts] at hown7 hownR7 ⊢
  (repeat (first | refine pl_pure hT rfl rfl rfl ?_ | refine pl_nil ?_ | refine rn_seq ?_ | refine rn_plain ?_ | refine rn_block ?_ | refine rn_inBlock ?_ | refine rn_skip ?_ | refine rn_true rfl ?_ | refine rn_false rfl ?_ | refine rn_exit rfl ?_ | refine pl_not rfl rfl ?_))
  refine pl_no rfl rfl rfl rfl rfl rfl (by first | (simp only [cmpP]; omega) | (simp [cmpP]; done) | (simp [cmpP]; omega)) ?_
  (repeat (first | refine pl_pure hT rfl rfl rfl ?_ | refine pl_nil ?_ | refine rn_seq ?_ | refine rn_plain ?_ | refine rn_block ?_ | refine rn_inBlock ?_ | refine rn_skip ?_ | refine rn_true rfl ?_ | refine rn_false rfl ?_ | refine rn_exit rfl ?_ | refine pl_not rfl rfl ?_))
  refine rn_ind (fun m σ w' => ∃ i : Nat, i ≤ ts.length ∧ m = ts.length - i ∧ σ = [(3, .slice av ts.length cv), (5, .slice au ts.length cu), (7, .int .i64 (i : Nat))] ∧ Own w' w1.heap.size 32 4 (.slice av ts.length cv) ts.length (ts.flatMap tokL) ∧ Own w' w4.heap.size 33 4 (.slice au ts.length cu) ts.length (ts.flatMap tokL) ∧ Keep [] w w') ts.length _ ?_
    ⟨0, by omega, by omega, rfl, hown7, hownR7, hk07⟩ ?_
  · exact ⟨rfl, rfl, rfl, trivial⟩
  rintro m σ w8 ih ⟨i, hi, rfl, rfl, hown8, hownR8, hk8⟩
  (repeat (first | refine pl_pure hT rfl rfl rfl ?_ | refine pl_nil ?_ | refine rn_seq ?_ | refine rn_plain ?_ | refine rn_block ?_ | refine rn_inBlock ?_ | refine rn_skip ?_ | refine rn_true rfl ?_ | refine rn_false rfl ?_ | refine rn_exit rfl ?_ | refine pl_not rfl rfl ?_))
  by_cases hlt : i < ts.length
  · refine pl_yes rfl rfl rfl rfl rfl (by first | (simp only [cmpP]; omega) | (simp [cmpP]; done) | (simp [cmpP]; omega)) ?_
    (repeat (first | refine pl_pure hT rfl rfl rfl ?_ | refine pl_nil ?_ | refine rn_seq ?_ | refine rn_plain ?_ | refine rn_block ?_ | refine rn_inBlock ?_ | refine rn_skip ?_ | refine rn_true rfl ?_ | refine rn_false rfl ?_ | refine rn_exit rfl ?_ | refine pl_not rfl rfl ?_))
    obtain ⟨g1, c1, e1, hr1⟩ := tok_range hown8 rfl (List.getElem?_eq_getElem hlt)
    obtain ⟨g2, c2, e2, hr2⟩ := tok_range hownR8 rfl (List.getElem?_eq_getElem hlt)
    obtain ⟨t, ht⟩ : ∃ t, t = ts[i] := ⟨_, rfl⟩
    rw [← ht] at hr1 hr2
    injection e1 with e1 _ e1'
    injection e2 with e2 _ e2'
    subst e1 e1' e2 e2'
    refine rn_draw (fun w' => w'.rangeAt g1 (0 + i * 4) (tokL t) ∧ w'.rangeAt g2 (0 + i * 4) (tokL t)) [] hMix ?_
    have hS : w8.drew.rangeAt g1 (0 + i * 4) (tokL t) ∧ w8.drew.rangeAt g2 (0 + i * 4) (tokL t) := ⟨hr1, hr2⟩
    refine dr_pure 0 hT rfl (by decide +kernel) rfl rfl rfl ?_
    refine dr_pure 1 hT rfl (by decide +kernel) rfl rfl rfl ?_
    refine dr_any 2 _ rfl (by decide +kernel) rfl rfl (fun w => val_index i hT rfl rfl rfl rfl rfl hlt w) ?_
    refine dr_pure 3 hT rfl (by decide +kernel) rfl rfl rfl ?_
    refine dr_val 4 _ rfl (by decide +kernel) rfl rfl (fun w9 hS9 => val_load1 hT rfl rfl rfl (hS9.1 0 _ rfl)) hS ?_
    refine dr_pure 5 hT rfl (by decide +kernel) rfl rfl rfl ?_
    refine dr_pure 6 hT rfl (by decide +kernel) rfl rfl rfl ?_
    refine dr_any 7 _ rfl (by decide +kernel) rfl rfl (fun w => val_index i hT rfl rfl rfl rfl rfl hlt w) ?_
    refine dr_pure 8 hT rfl (by decide +kernel) rfl rfl rfl ?_
    refine dr_val 9 _ rfl (by decide +kernel) rfl rfl (fun w9 hS9 => val_load1 hT rfl rfl rfl (hS9.2 0 _ rfl)) hS ?_
    refine dr_no 10 rfl (by decide +kernel) rfl rfl rfl rfl rfl rfl (by first | (simp only [cmpP]; omega) | (simp [cmpP]; done) | (simp [cmpP]; omega)) ?_
    refine dr_pure 11 hT rfl (by decide +kernel) rfl rfl rfl ?_
    refine dr_pure 12 hT rfl (by decide +kernel) rfl rfl rfl ?_
    refine dr_pure 13 hT rfl (by decide +kernel) rfl rfl rfl ?_
    refine dr_any 14 _ rfl (by decide +kernel) rfl rfl (fun w => val_index i hT rfl rfl rfl rfl rfl hlt w) ?_
    refine dr_pure 15 hT rfl (by decide +kernel) rfl rfl rfl ?_
    refine dr_val 16 _ rfl (by decide +kernel) rfl rfl (fun w9 hS9 => val_load1 hT rfl rfl rfl (hS9.1 1 _ rfl)) hS ?_
    refine dr_pure 17 hT rfl (by decide +kernel) rfl rfl rfl ?_
    refine dr_pure 18 hT rfl (by decide +kernel) rfl rfl rfl ?_
    refine dr_any 19 _ rfl (by decide +kernel) rfl rfl (fun w => val_index i hT rfl rfl rfl rfl rfl hlt w) ?_
    refine dr_pure 20 hT rfl (by decide +kernel) rfl rfl rfl ?_
    refine dr_val 21 _ rfl (by decide +kernel) rfl rfl (fun w9 hS9 => val_load1 hT rfl rfl rfl (hS9.2 1 _ rfl)) hS ?_
    refine dr_any 22 _ rfl (by decide +kernel) rfl rfl (fun w => val_neS t.text t.text false rfl rfl rfl (by simp) w) ?_
    refine dr_pure 23 hT rfl (by decide +kernel) rfl rfl rfl ?_
    refine dr_pure 24 hT rfl (by decide +kernel) rfl rfl rfl ?_
    refine dr_pure 25 hT rfl (by decide +kernel) rfl rfl rfl ?_
    refine dr_pure 26 hT rfl (by decide +kernel) rfl rfl rfl ?_
    refine dr_any 27 _ rfl (by decide +kernel) rfl rfl (fun w => val_index i hT rfl rfl rfl rfl rfl hlt w) ?_
    refine dr_pure 28 hT rfl (by decide +kernel) rfl rfl rfl ?_
    refine dr_val 29 _ rfl (by decide +kernel) rfl rfl (fun w9 hS9 => val_load1 hT rfl rfl rfl (hS9.1 2 _ rfl)) hS ?_
    refine dr_pure 30 hT rfl (by decide +kernel) rfl rfl rfl ?_
    refine dr_pure 31 hT rfl (by decide +kernel) rfl rfl rfl ?_
    refine dr_any 32 _ rfl (by decide +kernel) rfl rfl (fun w => val_index i hT rfl rfl rfl rfl rfl hlt w) ?_
    refine dr_pure 33 hT rfl (by decide +kernel) rfl rfl rfl ?_
    refine dr_val 34 _ rfl (by decide +kernel) rfl rfl (fun w9 hS9 => val_load1 hT rfl rfl rfl (hS9.2 2 _ rfl)) hS ?_
    refine dr_any 35 _ rfl (by decide +kernel) rfl rfl (fun w => val_neBool t.num t.num false (by decide +kernel) rfl rfl rfl (by simp) w) ?_
    refine dr_pure 36 hT rfl (by decide +kernel) rfl rfl rfl ?_
    refine dr_pure 37 hT rfl (by decide +kernel) rfl rfl rfl ?_
    refine dr_pure 38 hT rfl (by decide +kernel) rfl rfl rfl ?_
    refine dr_pure 39 hT rfl (by decide +kernel) rfl rfl rfl ?_
    refine dr_any 40 _ rfl (by decide +kernel) rfl rfl (fun w => val_index i hT rfl rfl rfl rfl rfl hlt w) ?_
    refine dr_pure 41 hT rfl (by decide +kernel) rfl rfl rfl ?_
    refine dr_val 42 _ rfl (by decide +kernel) rfl rfl (fun w9 hS9 => val_load1 hT rfl rfl rfl (hS9.1 3 _ rfl)) hS ?_
    refine dr_pure 43 hT rfl (by decide +kernel) rfl rfl rfl ?_
    refine dr_pure 44 hT rfl (by decide +kernel) rfl rfl rfl ?_
    refine dr_any 45 _ rfl (by decide +kernel) rfl rfl (fun w => val_index i hT rfl rfl rfl rfl rfl hlt w) ?_
    refine dr_pure 46 hT rfl (by decide +kernel) rfl rfl rfl ?_
    refine dr_val 47 _ rfl (by decide +kernel) rfl rfl (fun w9 hS9 => val_load1 hT rfl rfl rfl (hS9.2 3 _ rfl)) hS ?_
    refine dr_no 48 rfl (by decide +kernel) rfl rfl rfl rfl rfl rfl (by first | (simp only [cmpP]; omega) | (simp [cmpP]; done) | (simp [cmpP]; omega)) ?_
    refine dr_pure 49 hT rfl (by decide +kernel) rfl rfl rfl ?_
    refine dr_done (by decide +kernel) ?_
    (repeat (first | refine pl_pure hT rfl rfl rfl ?_ | refine pl_nil ?_ | refine rn_seq ?_ | refine rn_plain ?_ | refine rn_block ?_ | refine rn_inBlock ?_ | refine rn_skip ?_ | refine rn_true rfl ?_ | refine rn_false rfl ?_ | refine rn_exit rfl ?_ | refine pl_not rfl rfl ?_))
    refine pl_num (((i + 1 : Nat) : Int)) rfl rfl rfl rfl rfl (by simp only [ariP]; omega) ?_
    (repeat (first | refine pl_pure hT rfl rfl rfl ?_ | refine pl_nil ?_ | refine rn_seq ?_ | refine rn_plain ?_ | refine rn_block ?_ | refine rn_inBlock ?_ | refine rn_skip ?_ | refine rn_true rfl ?_ | refine rn_false rfl ?_ | refine rn_exit rfl ?_ | refine pl_not rfl rfl ?_))
    have hkd : Keep [] w8 w8.drew := (Keep.refl _ _).drew
    refine rn_sub ?_ (ih _ _ _ ?_ ⟨i + 1, hlt, rfl, rfl, hown8.keep hkd (by simp), hownR8.keep hkd (by simp), hk8.tr hkd⟩)
    · exact ⟨rfl, rfl, rfl, trivial⟩
    · omega
  · refine pl_no rfl rfl rfl rfl rfl rfl (by first | (simp only [cmpP]; omega) | (simp [cmpP]; done) | (simp [cmpP]; omega)) ?_
    (repeat (first | refine pl_pure hT rfl rfl rfl ?_ | refine pl_nil ?_ | refine rn_seq ?_ | refine rn_plain ?_ | refine rn_block ?_ | refine rn_inBlock ?_ | refine rn_skip ?_ | refine rn_true rfl ?_ | refine rn_false rfl ?_ | refine rn_exit rfl ?_ | refine pl_not rfl rfl ?_))
    exact rn_ret Tryd.func3 (.inl ⟨_, rfl, rfl⟩) ⟨rfl, hk8⟩
end E
end Go.Proofs.YthidfgolcibcoacDoor
