/- The walk of StoreLast: whatever the steps and the page, it returns true, and turns nothing that was there. -/
import Derived.Test.YtcecheleagljgaaStoP
namespace Go.Proofs.Ytcecheleagljgaa
set_option maxRecDepth 20000
namespace E
open Go.Proofs

theorem not_fp {B : Nat} {w : World} {d : Nat} {S : List Int} {L : List Wr} {wv : Value} (h : DiskV B w d S L wv) {b : Nat} {M : List Value} {e : TypeId} (hb : Blk w b M e) (he : (e == 73 || e == 75) = false) : b ∉ fpD d wv := fun hm => by
  rcases fpD_typ h b hm _ _ hb with h1 | h1 <;> simp [h1] at he

theorem lookI_take {ps : List Pg} {k : Nat} {p : Pg} (h : ps[k]? = some p) (i : Int) (x : List Int) : (lookI (ps.take (k + 1)) i).getD x = if p.1 = i then p.2 else (lookI (ps.take k) i).getD x := by
  have hlt : k < ps.length := (List.getElem?_eq_some_iff.1 h).1
  rw [List.take_succ_eq_append_getElem hlt, (List.getElem?_eq_some_iff.1 h).2, lookI_snoc]
  split <;> rfl

theorem look_len {ps : List Pg} (hwf : ∀ p ∈ ps, p.2.length = 8) (i : Int) {x : List Int} (hx : x.length = 8) : ((lookI ps i).getD x).length = 8 := by
  unfold lookI
  cases h : (ps.filter fun p => p.1 == i).getLast? with
  | none => exact hx
  | some p => exact hwf p (List.mem_filter.1 (List.mem_of_getLast? h)).1

theorem last_law {w : World} {lv : Value} {st : List SStep} (hst : ArgT w.heap.size w lv st) (page : Int) :
    Ret Try.prog 8 [lv, .int .i64 page] w fun v w' => v = .bool true ∧ Keep [] w w' := by
  refine ret_of 104 Try.func8 rfl rfl (by simp) ?_
  repeat (first | refine pl_pure hT rfl rfl rfl ?_ | refine pl_nil ?_ | refine rn_seq ?_ | refine rn_plain ?_ | refine rn_block ?_ | refine rn_inBlock ?_ | refine rn_skip ?_ | refine rn_true rfl ?_ | refine rn_false rfl ?_ | refine rn_exit rfl ?_ | refine pl_not rfl rfl ?_)
  refine pl_op rfl rfl (opTo_call rfl rfl rfl rfl (by decide +kernel) ((storeBegun_ret w).mono ?_))
  rintro v w1 ⟨rfl, hk1⟩
  repeat (first | refine pl_pure hT rfl rfl rfl ?_ | refine pl_nil ?_ | refine rn_seq ?_ | refine rn_plain ?_ | refine rn_block ?_ | refine rn_inBlock ?_ | refine rn_skip ?_ | refine rn_true rfl ?_ | refine rn_false rfl ?_ | refine rn_exit rfl ?_ | refine pl_not rfl rfl ?_)
  refine pl_op rfl rfl (opTo_call rfl rfl rfl rfl (by decide +kernel) ((great_ret (hst.keep hk1 (by simp))).mono ?_))
  rintro v w1' ⟨rfl, b, rfl, hsm⟩
  cases b with
  | true =>
    repeat (first | refine pl_pure hT rfl rfl rfl ?_ | refine pl_nil ?_ | refine rn_seq ?_ | refine rn_plain ?_ | refine rn_block ?_ | refine rn_inBlock ?_ | refine rn_skip ?_ | refine rn_true rfl ?_ | refine rn_false rfl ?_ | refine rn_exit rfl ?_ | refine pl_not rfl rfl ?_)
    exact rn_ret Try.func8 (.inl ⟨_, rfl, rfl⟩) ⟨rfl, hk1⟩
  | false =>
    obtain ⟨h60, h30⟩ := hsm rfl
    clear hsm
    obtain ⟨la, lcap, hlv⟩ := hst.form
    repeat (first | refine pl_pure hT rfl rfl rfl ?_ | refine pl_nil ?_ | refine rn_seq ?_ | refine rn_plain ?_ | refine rn_block ?_ | refine rn_inBlock ?_ | refine rn_skip ?_ | refine rn_true rfl ?_ | refine rn_false rfl ?_ | refine rn_exit rfl ?_ | refine pl_not rfl rfl ?_)
    refine pl_op rfl rfl (opTo_call rfl rfl rfl rfl (by decide +kernel) ((new_ret w1').mono ?_))
    rintro v w2 ⟨rfl, h2, hk2⟩
    have hB : w.heap.size ≤ w1'.heap.size := hk1.size
    have hkw2 := hk1.tr0 hk2
    generalize w1'.heap.size = d at *
    clear hk1 hk2
    repeat (first | refine pl_pure hT rfl rfl rfl ?_ | refine pl_nil ?_ | refine rn_seq ?_ | refine rn_plain ?_ | refine rn_block ?_ | refine rn_inBlock ?_ | refine rn_skip ?_ | refine rn_true rfl ?_ | refine rn_false rfl ?_ | refine rn_exit rfl ?_ | refine pl_not rfl rfl ?_)
    refine pl_op rfl rfl (opTo_call rfl rfl rfl rfl (by decide +kernel) ((open_ret d w2).mono ?_))
    rintro v w3 ⟨rfl, hs3, hk3⟩
    have h3 := h2.keep hk3 (by simp)
    have hkw3 := hkw2.tr0 hk3
    generalize w2.heap.size = s at *
    clear hk3 hkw2 h2
    repeat (first | refine pl_pure hT rfl rfl rfl ?_ | refine pl_nil ?_ | refine rn_seq ?_ | refine rn_plain ?_ | refine rn_block ?_ | refine rn_inBlock ?_ | refine rn_skip ?_ | refine rn_true rfl ?_ | refine rn_false rfl ?_ | refine rn_exit rfl ?_ | refine pl_not rfl rfl ?_)
    refine pl_val _ rfl rfl (val_build _ rfl rfl built_words0 w3) ?_
    refine pl_op rfl rfl (opTo_alloc _ rfl zero_words ?_)
    have hk4 : Keep [] w3 (w3.alloc (.cells (ints (List.replicate 8 0)).toArray 32)) := (Keep.refl _ _).alloc _
    have hx4 := Blk.new w3 (ints (List.replicate 8 0)) 32
    have hsz := hkw3.size
    generalize (w3.alloc (.cells (ints (List.replicate 8 0)).toArray 32)) = w4 at *
    repeat (first | refine pl_pure hT rfl rfl rfl ?_ | refine pl_nil ?_ | refine rn_seq ?_ | refine rn_plain ?_ | refine rn_block ?_ | refine rn_inBlock ?_ | refine rn_skip ?_ | refine rn_true rfl ?_ | refine rn_false rfl ?_ | refine rn_exit rfl ?_ | refine pl_not rfl rfl ?_)
    refine pl_op rfl rfl (opTo_store _ rfl rfl rfl rfl (by kernel_rfl) hx4 (by simp [ints]) (ints_one _) ?_)
    rw [splice_all rfl]
    have hk5 := hk4.setRow w3.heap.size (ints (List.replicate 8 0)).toArray (.inr (Nat.le_refl _))
    have hx5 := hx4.set (ints (List.replicate 8 0))
    generalize (w4.setRow w3.heap.size (ints (List.replicate 8 0)).toArray) = w5 at *
    have h5 := h3.keep hk5 (by simp)
    have hs5 : StoreV w5 s d := hk5.blk hs3 (by simp)
    have hkw5 := hkw3.tr0 hk5
    generalize w3.heap.size = x at *
    clear hk4 hx4 hk5 h3 hs3 hkw3
    repeat (first | refine pl_pure hT rfl rfl rfl ?_ | refine pl_nil ?_ | refine rn_seq ?_ | refine rn_plain ?_ | refine rn_block ?_ | refine rn_inBlock ?_ | refine rn_skip ?_ | refine rn_true rfl ?_ | refine rn_false rfl ?_ | refine rn_exit rfl ?_ | refine pl_not rfl rfl ?_)
    refine rn_ind (fun q σ w' => ∃ j S wv, q = st.length - j ∧ j ≤ st.length ∧ σ = [(0, lv), (1, .int .i64 page), (5, .pointer (some ⟨d, 0, none⟩)), (6, .pointer (some ⟨s, 0, none⟩)), (7, .pointer (some ⟨x, 0, none⟩)), (8, .int .i64 (genS S)), (9, .int .i64 (j : Nat))] ∧
        Keep [] w w' ∧ DiskV d w' d S [] wv ∧ StoreV w' s d ∧ Good S ∧ genS S ≤ j ∧ Blk w' x (ints (readS S page)) 32)
      (st.length - 0) _ ?_ ⟨0, S0, _, rfl, Nat.zero_le _, rfl, hkw5, h5, hs5, good0, by rw [genS0]; decide, by rw [read0]; exact hx5⟩ ?_
    · rw [genS0]
      exact ⟨rfl, rfl, rfl, rfl, rfl, rfl, rfl, trivial⟩
    clear h5 hs5 hkw5 hx5
    rintro q σ w5 ih ⟨j, S, wv, hq, hj, rfl, hk5, h5, hs5, hG, hgj, hx5⟩
    have hg0 := genS_nonneg S
    repeat (first | refine pl_pure hT rfl rfl rfl ?_ | refine pl_nil ?_ | refine rn_seq ?_ | refine rn_plain ?_ | refine rn_block ?_ | refine rn_inBlock ?_ | refine rn_skip ?_ | refine rn_true rfl ?_ | refine rn_false rfl ?_ | refine rn_exit rfl ?_ | refine pl_not rfl rfl ?_)
    refine pl_val (.int .i64 st.length) rfl rfl (val_pure hT (by rw [hlv]; rfl) w5) ?_
    rcases Nat.lt_or_ge j st.length with hlt | hge
    · refine pl_val (.bool true) rfl rfl (val_int .i64 _ _ _ rfl rfl rfl (by simp [intOp]; omega) w5) ?_
      obtain ⟨t, ht⟩ : ∃ t, st[j]? = some t := ⟨_, List.getElem?_eq_getElem hlt⟩
      have htm := List.mem_of_getElem? ht
      have hp5 := (hst.keep hk5 (by simp)).pgs t htm
      have hl30 := h30 t htm
      obtain ⟨b, o, cap, hlv', hb, hr⟩ := (hst.keep hk5 (by simp)).at ht
      repeat (first | refine pl_pure hT rfl rfl rfl ?_ | refine pl_nil ?_ | refine rn_seq ?_ | refine rn_plain ?_ | refine rn_block ?_ | refine rn_inBlock ?_ | refine rn_skip ?_ | refine rn_true rfl ?_ | refine rn_false rfl ?_ | refine rn_exit rfl ?_ | refine pl_not rfl rfl ?_)
      refine pl_val _ rfl rfl (val_index j hT rfl (by rw [hlv']; rfl) rfl rfl rfl hlt w5) ?_
      repeat (first | refine pl_pure hT rfl rfl rfl ?_ | refine pl_nil ?_ | refine rn_seq ?_ | refine rn_plain ?_ | refine rn_block ?_ | refine rn_inBlock ?_ | refine rn_skip ?_ | refine rn_true rfl ?_ | refine rn_false rfl ?_ | refine rn_exit rfl ?_ | refine pl_not rfl rfl ?_)
      refine pl_val t.pv rfl rfl (val_load1 hT rfl rfl rfl (hr 2 _ rfl)) ?_
      by_cases hc : chk t.ps = 0
      · obtain ⟨⟨S2, hS2, hN2⟩, _⟩ := commit_view hG hc hp5.wf
        refine pl_op rfl rfl (opTo_call rfl rfl rfl rfl (by decide +kernel) ((commit_ret hs5 h5 hp5 (by omega) (by decide) hg0 (by omega) (-1) hc (t.ps.length + 5) (by simp)).mono ?_))
        rintro v w6 ⟨rfl, wv6, h6, hk6, hf6⟩
        rw [hS2] at h6
        rw [show decide ((-1 : Int) < 0 ∨ (-1 : Int) ≥ ((t.ps.length + 5 : Nat) : Int)) = true by simp]
        have hx6 := hk6.blk hx5 (not_fp h5 hx5 (by decide))
        have hs6 : StoreV w6 s d := hk6.blk hs5 (not_fp h5 hs5 (by decide))
        have hkw6 : Keep [] w w6 := hk5.trans hk6 fun k hk => .inr (Nat.le_trans hB (h5.lt k hk).1)
        have hg2 := hN2.gen
        replace h6 : DiskV d w6 d S2 [] wv6 := h6
        repeat (first | refine pl_pure hT rfl rfl rfl ?_ | refine pl_nil ?_ | refine rn_seq ?_ | refine rn_plain ?_ | refine rn_block ?_ | refine rn_inBlock ?_ | refine rn_skip ?_ | refine rn_true rfl ?_ | refine rn_false rfl ?_ | refine rn_exit rfl ?_ | refine pl_not rfl rfl ?_)
        refine pl_val (.bool true) rfl rfl (val_int .i64 0 0 _ rfl rfl rfl rfl w6) ?_
        refine pl_val (.bool false) rfl rfl (val_neBool true true _ (by decide +kernel) rfl rfl rfl rfl w6) ?_
        repeat (first | refine pl_pure hT rfl rfl rfl ?_ | refine pl_nil ?_ | refine rn_seq ?_ | refine rn_plain ?_ | refine rn_block ?_ | refine rn_inBlock ?_ | refine rn_skip ?_ | refine rn_true rfl ?_ | refine rn_false rfl ?_ | refine rn_exit rfl ?_ | refine pl_not rfl rfl ?_)
        refine pl_val (.int .i64 (genS S2)) rfl rfl (val_int .i64 _ 1 _ rfl rfl rfl (by simp only [intOp]; rw [wrap_i64 (by omega) (by omega), hg2]) w6) ?_
        repeat (first | refine pl_pure hT rfl rfl rfl ?_ | refine pl_nil ?_ | refine rn_seq ?_ | refine rn_plain ?_ | refine rn_block ?_ | refine rn_inBlock ?_ | refine rn_skip ?_ | refine rn_true rfl ?_ | refine rn_false rfl ?_ | refine rn_exit rfl ?_ | refine pl_not rfl rfl ?_)
        have hxinit : Blk w6 x (ints ((lookI (t.ps.take 0) page).getD (readS S page))) 32 := hx6
        have hxl : x ≥ w.heap.size ∨ True := .inr trivial
        refine rn_ind (fun q σ w' => ∃ k, q = t.ps.length - k ∧ k ≤ t.ps.length ∧ σ = [(0, lv), (1, .int .i64 page), (5, .pointer (some ⟨d, 0, none⟩)), (6, .pointer (some ⟨s, 0, none⟩)), (7, .pointer (some ⟨x, 0, none⟩)), (8, .int .i64 (genS S2)), (9, .int .i64 (j : Nat)), (12, .int .i64 (k : Nat))] ∧
            Keep [] w w' ∧ DiskV d w' d S2 [] wv6 ∧ StoreV w' s d ∧ Blk w' x (ints ((lookI (t.ps.take k) page).getD (readS S page))) 32)
          (t.ps.length - 0) _ ?_ ⟨0, rfl, Nat.zero_le _, rfl, hkw6, h6, hs6, hxinit⟩ ?_
        · exact ⟨rfl, rfl, rfl, rfl, rfl, rfl, rfl, rfl, trivial⟩
        clear hxinit h6 hs6 hkw6 hx6 hk6 hf6 hr
        rintro q' σ w7 ih' ⟨k, hq', hk, rfl, hk7, h7, hs7, hx7⟩
        obtain ⟨b, o, cap, hlv', hb, hr⟩ := (hst.keep hk7 (by simp)).at ht
        have hp7 := (hst.keep hk7 (by simp)).pgs t htm
        obtain ⟨pa, pcap, hpv⟩ := hp7.form
        repeat (first | refine pl_pure hT rfl rfl rfl ?_ | refine pl_nil ?_ | refine rn_seq ?_ | refine rn_plain ?_ | refine rn_block ?_ | refine rn_inBlock ?_ | refine rn_skip ?_ | refine rn_true rfl ?_ | refine rn_false rfl ?_ | refine rn_exit rfl ?_ | refine pl_not rfl rfl ?_)
        refine pl_val _ rfl rfl (val_index j hT rfl (by rw [hlv']; rfl) rfl rfl rfl hlt w7) ?_
        repeat (first | refine pl_pure hT rfl rfl rfl ?_ | refine pl_nil ?_ | refine rn_seq ?_ | refine rn_plain ?_ | refine rn_block ?_ | refine rn_inBlock ?_ | refine rn_skip ?_ | refine rn_true rfl ?_ | refine rn_false rfl ?_ | refine rn_exit rfl ?_ | refine pl_not rfl rfl ?_)
        refine pl_val t.pv rfl rfl (val_load1 hT rfl rfl rfl (hr 2 _ rfl)) ?_
        refine pl_val (.int .i64 t.ps.length) rfl rfl (val_pure hT (by rw [hpv]; rfl) w7) ?_
        rcases Nat.lt_or_ge k t.ps.length with hklt | hkge
        · refine pl_val (.bool true) rfl rfl (val_int .i64 _ _ _ rfl rfl rfl (by simp [intOp]; omega) w7) ?_
          obtain ⟨p, hp⟩ : ∃ p, t.ps[k]? = some p := ⟨_, List.getElem?_eq_getElem hklt⟩
          have h8 := hp7.wf p (List.mem_of_getElem? hp)
          obtain ⟨pb, po, pcap', hpv', _, hpr⟩ := hp7.at hp
          repeat (first | refine pl_pure hT rfl rfl rfl ?_ | refine pl_nil ?_ | refine rn_seq ?_ | refine rn_plain ?_ | refine rn_block ?_ | refine rn_inBlock ?_ | refine rn_skip ?_ | refine rn_true rfl ?_ | refine rn_false rfl ?_ | refine rn_exit rfl ?_ | refine pl_not rfl rfl ?_)
          refine pl_val _ rfl rfl (val_index j hT rfl (by rw [hlv']; rfl) rfl rfl rfl hlt w7) ?_
          repeat (first | refine pl_pure hT rfl rfl rfl ?_ | refine pl_nil ?_ | refine rn_seq ?_ | refine rn_plain ?_ | refine rn_block ?_ | refine rn_inBlock ?_ | refine rn_skip ?_ | refine rn_true rfl ?_ | refine rn_false rfl ?_ | refine rn_exit rfl ?_ | refine pl_not rfl rfl ?_)
          refine pl_val t.pv rfl rfl (val_load1 hT rfl rfl rfl (hr 2 _ rfl)) ?_
          repeat (first | refine pl_pure hT rfl rfl rfl ?_ | refine pl_nil ?_ | refine rn_seq ?_ | refine rn_plain ?_ | refine rn_block ?_ | refine rn_inBlock ?_ | refine rn_skip ?_ | refine rn_true rfl ?_ | refine rn_false rfl ?_ | refine rn_exit rfl ?_ | refine pl_not rfl rfl ?_)
          refine pl_val _ rfl rfl (val_index k hT rfl (by rw [hpv']; rfl) rfl rfl rfl hklt w7) ?_
          repeat (first | refine pl_pure hT rfl rfl rfl ?_ | refine pl_nil ?_ | refine rn_seq ?_ | refine rn_plain ?_ | refine rn_block ?_ | refine rn_inBlock ?_ | refine rn_skip ?_ | refine rn_true rfl ?_ | refine rn_false rfl ?_ | refine rn_exit rfl ?_ | refine pl_not rfl rfl ?_)
          refine pl_val (.int .i64 p.1) rfl rfl (val_load1 hT rfl rfl rfl (hpr 0 _ rfl)) ?_
          repeat (first | refine pl_pure hT rfl rfl rfl ?_ | refine pl_nil ?_ | refine rn_seq ?_ | refine rn_plain ?_ | refine rn_block ?_ | refine rn_inBlock ?_ | refine rn_skip ?_ | refine rn_true rfl ?_ | refine rn_false rfl ?_ | refine rn_exit rfl ?_ | refine pl_not rfl rfl ?_)
          by_cases hpe : p.1 = page
          · refine pl_val (.bool true) rfl rfl (val_int .i64 _ _ _ rfl rfl rfl (by simp [intOp, hpe]) w7) ?_
            repeat (first | refine pl_pure hT rfl rfl rfl ?_ | refine pl_nil ?_ | refine rn_seq ?_ | refine rn_plain ?_ | refine rn_block ?_ | refine rn_inBlock ?_ | refine rn_skip ?_ | refine rn_true rfl ?_ | refine rn_false rfl ?_ | refine rn_exit rfl ?_ | refine pl_not rfl rfl ?_)
            refine pl_val _ rfl rfl (val_index j hT rfl (by rw [hlv']; rfl) rfl rfl rfl hlt w7) ?_
            repeat (first | refine pl_pure hT rfl rfl rfl ?_ | refine pl_nil ?_ | refine rn_seq ?_ | refine rn_plain ?_ | refine rn_block ?_ | refine rn_inBlock ?_ | refine rn_skip ?_ | refine rn_true rfl ?_ | refine rn_false rfl ?_ | refine rn_exit rfl ?_ | refine pl_not rfl rfl ?_)
            refine pl_val t.pv rfl rfl (val_load1 hT rfl rfl rfl (hr 2 _ rfl)) ?_
            repeat (first | refine pl_pure hT rfl rfl rfl ?_ | refine pl_nil ?_ | refine rn_seq ?_ | refine rn_plain ?_ | refine rn_block ?_ | refine rn_inBlock ?_ | refine rn_skip ?_ | refine rn_true rfl ?_ | refine rn_false rfl ?_ | refine rn_exit rfl ?_ | refine pl_not rfl rfl ?_)
            refine pl_val _ rfl rfl (val_index k hT rfl (by rw [hpv']; rfl) rfl rfl rfl hklt w7) ?_
            repeat (first | refine pl_pure hT rfl rfl rfl ?_ | refine pl_nil ?_ | refine rn_seq ?_ | refine rn_plain ?_ | refine rn_block ?_ | refine rn_inBlock ?_ | refine rn_skip ?_ | refine rn_true rfl ?_ | refine rn_false rfl ?_ | refine rn_exit rfl ?_ | refine pl_not rfl rfl ?_)
            refine pl_val (.agg (ints p.2).toArray) rfl rfl (val_load _ hT rfl rfl (by rw [ints_length, h8]; rfl) (range_sub hpr 1 (by simp [pcell]))) ?_
            have hl8 := look_len (ps := t.ps.take k) (fun p hp => hp7.wf p (List.mem_of_mem_take hp)) page (readS_length hG.len page)
            refine pl_op rfl rfl (opTo_store _ rfl rfl rfl rfl (by rw [ints_length, h8]; decide +kernel) hx7 (by rw [ints_length, ints_length, h8, hl8]; decide) (ints_one _) ?_)
            rw [splice_all (by rw [ints_length, ints_length, h8, hl8])]
            have hk8 := hk7.setRow x (ints p.2).toArray (.inr hsz)
            have hx8 := hx7.set (ints p.2)
            have hkx : Keep [x] w7 (w7.setRow x (ints p.2).toArray) := (Keep.refl _ _).setRow _ _ (.inl (by simp))
            have hd8 := h7.keep hkx (fun k hk => by
              simp only [List.mem_singleton]
              intro e
              exact not_fp h7 hx7 (by decide) (e ▸ hk))
            have hs8 : StoreV _ s d := hkx.blk hs7 (by simp only [List.mem_singleton]; exact Blk.ne hs7 hx7 (by decide))
            generalize (w7.setRow x (ints p.2).toArray) = w8 at *
            repeat (first | refine pl_pure hT rfl rfl rfl ?_ | refine pl_nil ?_ | refine rn_seq ?_ | refine rn_plain ?_ | refine rn_block ?_ | refine rn_inBlock ?_ | refine rn_skip ?_ | refine rn_true rfl ?_ | refine rn_false rfl ?_ | refine rn_exit rfl ?_ | refine pl_not rfl rfl ?_)
            refine pl_val (.int .i64 ((k + 1 : Nat) : Int)) rfl rfl (val_int .i64 k 1 _ rfl rfl rfl (by simp only [intOp]; rw [wrap_i64 (by omega) (by omega)]; rfl) w8) ?_
            repeat (first | refine pl_pure hT rfl rfl rfl ?_ | refine pl_nil ?_ | refine rn_seq ?_ | refine rn_plain ?_ | refine rn_block ?_ | refine rn_inBlock ?_ | refine rn_skip ?_ | refine rn_true rfl ?_ | refine rn_false rfl ?_ | refine rn_exit rfl ?_ | refine pl_not rfl rfl ?_)
            refine rn_sub ?_ (ih' (t.ps.length - (k + 1)) _ w8 (by omega) ⟨k + 1, rfl, hklt, rfl, hk8, hd8, hs8, by rw [lookI_take hp, if_pos hpe]; exact hx8⟩)
            exact ⟨rfl, rfl, rfl, rfl, rfl, rfl, rfl, rfl, trivial⟩
          · refine pl_val (.bool false) rfl rfl (val_int .i64 _ _ _ rfl rfl rfl (by simp [intOp, hpe]) w7) ?_
            repeat (first | refine pl_pure hT rfl rfl rfl ?_ | refine pl_nil ?_ | refine rn_seq ?_ | refine rn_plain ?_ | refine rn_block ?_ | refine rn_inBlock ?_ | refine rn_skip ?_ | refine rn_true rfl ?_ | refine rn_false rfl ?_ | refine rn_exit rfl ?_ | refine pl_not rfl rfl ?_)
            refine pl_val (.int .i64 ((k + 1 : Nat) : Int)) rfl rfl (val_int .i64 k 1 _ rfl rfl rfl (by simp only [intOp]; rw [wrap_i64 (by omega) (by omega)]; rfl) w7) ?_
            repeat (first | refine pl_pure hT rfl rfl rfl ?_ | refine pl_nil ?_ | refine rn_seq ?_ | refine rn_plain ?_ | refine rn_block ?_ | refine rn_inBlock ?_ | refine rn_skip ?_ | refine rn_true rfl ?_ | refine rn_false rfl ?_ | refine rn_exit rfl ?_ | refine pl_not rfl rfl ?_)
            refine rn_sub ?_ (ih' (t.ps.length - (k + 1)) _ w7 (by omega) ⟨k + 1, rfl, hklt, rfl, hk7, h7, hs7, by rw [lookI_take hp, if_neg hpe]; exact hx7⟩)
            exact ⟨rfl, rfl, rfl, rfl, rfl, rfl, rfl, rfl, trivial⟩
        · refine pl_val (.bool false) rfl rfl (val_int .i64 _ _ _ rfl rfl rfl (by simp [intOp]; omega) w7) ?_
          rw [List.take_of_length_le hkge, ← hN2.look hc] at hx7
          repeat (first | refine pl_pure hT rfl rfl rfl ?_ | refine pl_nil ?_ | refine rn_seq ?_ | refine rn_plain ?_ | refine rn_block ?_ | refine rn_inBlock ?_ | refine rn_skip ?_ | refine rn_true rfl ?_ | refine rn_false rfl ?_ | refine rn_exit rfl ?_ | refine pl_not rfl rfl ?_)
          refine pl_val (.int .i64 ((j + 1 : Nat) : Int)) rfl rfl (val_int .i64 j 1 _ rfl rfl rfl (by simp only [intOp]; rw [wrap_i64 (by omega) (by omega)]; rfl) w7) ?_
          repeat (first | refine pl_pure hT rfl rfl rfl ?_ | refine pl_nil ?_ | refine rn_seq ?_ | refine rn_plain ?_ | refine rn_block ?_ | refine rn_inBlock ?_ | refine rn_skip ?_ | refine rn_true rfl ?_ | refine rn_false rfl ?_ | refine rn_exit rfl ?_ | refine pl_not rfl rfl ?_)
          refine rn_sub ?_ (ih (st.length - (j + 1)) _ w7 (by omega) ⟨j + 1, S2, wv6, rfl, hlt, rfl, hk7, h7, hs7, hN2.good, by omega, hx7⟩)
          exact ⟨rfl, rfl, rfl, rfl, rfl, rfl, rfl, trivial⟩
      · refine pl_op rfl rfl (opTo_call rfl rfl rfl rfl (by decide +kernel) ((commit_bad hp5 (by omega) (-1) hc).mono ?_))
        rintro v w6 ⟨rfl, hk6⟩
        repeat (first | refine pl_pure hT rfl rfl rfl ?_ | refine pl_nil ?_ | refine rn_seq ?_ | refine rn_plain ?_ | refine rn_block ?_ | refine rn_inBlock ?_ | refine rn_skip ?_ | refine rn_true rfl ?_ | refine rn_false rfl ?_ | refine rn_exit rfl ?_ | refine pl_not rfl rfl ?_)
        refine pl_val (.bool false) rfl rfl (val_int .i64 _ 0 _ rfl rfl rfl (by simp [intOp, hc]) w6) ?_
        refine pl_val (.bool false) rfl rfl (val_neBool false false _ (by decide +kernel) rfl rfl rfl rfl w6) ?_
        repeat (first | refine pl_pure hT rfl rfl rfl ?_ | refine pl_nil ?_ | refine rn_seq ?_ | refine rn_plain ?_ | refine rn_block ?_ | refine rn_inBlock ?_ | refine rn_skip ?_ | refine rn_true rfl ?_ | refine rn_false rfl ?_ | refine rn_exit rfl ?_ | refine pl_not rfl rfl ?_)
        refine pl_val (.int .i64 ((j + 1 : Nat) : Int)) rfl rfl (val_int .i64 j 1 _ rfl rfl rfl (by simp only [intOp]; rw [wrap_i64 (by omega) (by omega)]; rfl) w6) ?_
        repeat (first | refine pl_pure hT rfl rfl rfl ?_ | refine pl_nil ?_ | refine rn_seq ?_ | refine rn_plain ?_ | refine rn_block ?_ | refine rn_inBlock ?_ | refine rn_skip ?_ | refine rn_true rfl ?_ | refine rn_false rfl ?_ | refine rn_exit rfl ?_ | refine pl_not rfl rfl ?_)
        refine rn_sub ?_ (ih (st.length - (j + 1)) _ w6 (by omega) ⟨j + 1, S, wv, rfl, hlt, rfl, hk5.tr0 hk6, h5.keep hk6 (by simp), hk6.blk hs5 (by simp), hG, by omega, hk6.blk hx5 (by simp)⟩)
        exact ⟨rfl, rfl, rfl, rfl, rfl, rfl, rfl, trivial⟩
    · refine pl_val (.bool false) rfl rfl (val_int .i64 _ _ _ rfl rfl rfl (by simp [intOp]; omega) w5) ?_
      clear ih
      repeat (first | refine pl_pure hT rfl rfl rfl ?_ | refine pl_nil ?_ | refine rn_seq ?_ | refine rn_plain ?_ | refine rn_block ?_ | refine rn_inBlock ?_ | refine rn_skip ?_ | refine rn_true rfl ?_ | refine rn_false rfl ?_ | refine rn_exit rfl ?_ | refine pl_not rfl rfl ?_)
      refine pl_op rfl rfl (opTo_call rfl rfl rfl rfl (by decide +kernel) ((crash_ret h5 (by decide) 0).mono ?_))
      rintro v w6 ⟨rfl, h6, hk6⟩
      rw [settled_nil] at h6
      have hx6 := hk6.blk hx5 (by simpa using Blk.ne hx5 h5.blk (by decide))
      have hs6 : StoreV w6 s d := hk6.blk hs5 (by simpa using Blk.ne hs5 h5.blk (by decide))
      have hkw6 : Keep [] w w6 := hk5.trans hk6 fun k hk => .inr (by simp at hk; omega)
      repeat (first | refine pl_pure hT rfl rfl rfl ?_ | refine pl_nil ?_ | refine rn_seq ?_ | refine rn_plain ?_ | refine rn_block ?_ | refine rn_inBlock ?_ | refine rn_skip ?_ | refine rn_true rfl ?_ | refine rn_false rfl ?_ | refine rn_exit rfl ?_ | refine pl_not rfl rfl ?_)
      refine pl_op rfl rfl (opTo_call rfl rfl rfl rfl (by decide +kernel) ((open_ret d w6).mono ?_))
      rintro v w7 ⟨rfl, hs7', hk7⟩
      have h7 := h6.keep hk7 (by simp)
      have hs7 : StoreV w7 s d := hk7.blk hs6 (by simp)
      have hx7 := hk7.blk hx6 (by simp)
      have hkw7 := hkw6.tr0 hk7
      generalize w6.heap.size = t at *
      have hr8 := readS_length hG.len page
      repeat (first | refine pl_pure hT rfl rfl rfl ?_ | refine pl_nil ?_ | refine rn_seq ?_ | refine rn_plain ?_ | refine rn_block ?_ | refine rn_inBlock ?_ | refine rn_skip ?_ | refine rn_true rfl ?_ | refine rn_false rfl ?_ | refine rn_exit rfl ?_ | refine pl_not rfl rfl ?_)
      have hk0 : Keep [] w7 w7.drew := (Keep.refl _ _).drew
      refine rn_draw (fun w' => Keep [] w7 w') [] hMix ?_
      refine dr_pure 0 hT rfl (by decide +kernel) rfl rfl rfl ?_
      refine dr_pure 1 hT rfl (by decide +kernel) rfl rfl rfl ?_
      refine dr_val 3 (.agg (ints (readS S page)).toArray) rfl (by decide +kernel) rfl rfl (fun w' hk => val_load _ hT rfl rfl (by rw [ints_length, hr8]; rfl) ((hk.blk hx7 (by simp)).range (by simp))) hk0 ?_
      refine dr_op 2 rfl (by decide +kernel) rfl rfl (opTo_call rfl rfl rfl rfl (by decide +kernel) ((sread_ret (hk0.blk hs7 (by simp)) (h7.keep hk0 (by simp)) page).mono ?_))
      rintro v w8 ⟨rfl, hk8⟩
      have hk8 := hk0.tr0 hk8
      refine ⟨fun _ => hk8, ?_⟩
      refine dr_any 4 (.bool true) rfl (by decide +kernel) rfl rfl (fun w' => val_eqInts _ _ arrW rfl rfl rfl hr8 hr8 _ (by simp) w') ?_
      refine dr_pure 5 hT rfl (by decide +kernel) rfl rfl rfl ?_
      refine dr_pure 6 hT rfl (by decide +kernel) rfl rfl rfl ?_
      refine dr_pure 7 hT rfl (by decide +kernel) rfl rfl rfl ?_
      refine dr_val 9 (.agg (ints (readS S page)).toArray) rfl (by decide +kernel) rfl rfl (fun w' hk => val_load _ hT rfl rfl (by rw [ints_length, hr8]; rfl) ((hk.blk hx7 (by simp)).range (by simp))) hk8 ?_
      refine dr_op 8 rfl (by decide +kernel) rfl rfl (opTo_call rfl rfl rfl rfl (by decide +kernel) ((sread_ret (hk8.blk hs7' (by simp)) (h7.keep hk8 (by simp)) page).mono ?_))
      rintro v w9 ⟨rfl, hk9⟩
      have hk9 := hk8.tr0 hk9
      refine ⟨fun _ => hk9, ?_⟩
      refine dr_any 10 (.bool true) rfl (by decide +kernel) rfl rfl (fun w' => val_eqInts _ _ arrW rfl rfl rfl hr8 hr8 _ (by simp) w') ?_
      refine dr_pure 11 hT rfl (by decide +kernel) rfl rfl rfl ?_
      refine dr_pure 12 hT rfl (by decide +kernel) rfl rfl rfl ?_
      refine dr_pure 13 hT rfl (by decide +kernel) rfl rfl rfl ?_
      refine dr_pure 15 hT rfl (by decide +kernel) rfl rfl rfl ?_
      refine dr_op 14 rfl (by decide +kernel) rfl rfl (opTo_call rfl rfl rfl rfl (by decide +kernel) ((gen_ret (hk9.blk hs7 (by simp)) (h7.keep hk9 (by simp))).mono ?_))
      rintro v w10 ⟨rfl, hk10⟩
      have hk10 := hk9.tr0 hk10
      refine ⟨fun _ => hk10, ?_⟩
      refine dr_any 16 (.bool true) rfl (by decide +kernel) rfl rfl (fun w' => val_int .i64 _ _ _ rfl rfl rfl (by simp [intOp]) w') ?_
      refine dr_pure 17 hT rfl (by decide +kernel) rfl rfl rfl ?_
      refine dr_pure 18 hT rfl (by decide +kernel) rfl rfl rfl ?_
      refine dr_pure 19 hT rfl (by decide +kernel) rfl rfl rfl ?_
      refine dr_pure 21 hT rfl (by decide +kernel) rfl rfl rfl ?_
      refine dr_op 20 rfl (by decide +kernel) rfl rfl (opTo_call rfl rfl rfl rfl (by decide +kernel) ((gen_ret (hk10.blk hs7' (by simp)) (h7.keep hk10 (by simp))).mono ?_))
      rintro v w11 ⟨rfl, hk11⟩
      have hk11 := hk10.tr0 hk11
      refine ⟨fun _ => hk11, ?_⟩
      refine dr_any 22 (.bool true) rfl (by decide +kernel) rfl rfl (fun w' => val_int .i64 _ _ _ rfl rfl rfl (by simp [intOp]) w') ?_
      refine dr_pure 23 hT rfl (by decide +kernel) rfl rfl rfl ?_
      refine dr_pure 24 hT rfl (by decide +kernel) rfl rfl rfl ?_
      refine dr_done (by decide +kernel) ?_
      repeat (first | refine pl_pure hT rfl rfl rfl ?_ | refine pl_nil ?_ | refine rn_seq ?_ | refine rn_plain ?_ | refine rn_block ?_ | refine rn_inBlock ?_ | refine rn_skip ?_ | refine rn_true rfl ?_ | refine rn_false rfl ?_ | refine rn_exit rfl ?_ | refine pl_not rfl rfl ?_)
      exact rn_ret Try.func8 (.inl ⟨_, rfl, rfl⟩) ⟨rfl, hkw7.tr0 hk11⟩
end E
end Go.Proofs.Ytcecheleagljgaa
