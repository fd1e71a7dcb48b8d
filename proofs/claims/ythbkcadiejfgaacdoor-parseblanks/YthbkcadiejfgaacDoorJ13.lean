/- Several texts in one: PgF, PgG, PgH. -/
import Derived.Test.YthbkcadiejfgaacDoorJ12
import Derived.Test.YthbkcadiejfgaacDoorJ06
/- The landed reader: statements, lists of them. -/
namespace Go.Proofs.YthbkcadiejfgaacDoor
set_option maxRecDepth 20000
set_option maxHeartbeats 4000000
namespace E
open Go.Proofs

section
variable {w0 w w' : World} {lv vv : Value} {ts : List Tok} {fin b i : Nat} {vs : List VarT}
/-- A statement, statements that were made since w. -/
def StR (w w' : World) (r : Value) (t : ST) : Prop := ∃ (cs : List Value) (F : Nat → Prop), r = .agg cs.toArray ∧ StmtV F w' cs t ∧ ∀ c, F c → w.heap.size ≤ c ∧ c < w'.heap.size
def LsR (w w' : World) (r : Value) (l : List ST) : Prop := (∃ a n c, r = .slice a n c ∧ n ≤ c) ∧ ∃ F : Nat → Prop, StmtsV F w' r l ∧ ∀ c, F c → w.heap.size ≤ c ∧ c < w'.heap.size
theorem LsR.keep {w'' : World} {r : Value} {l : List ST} {fp : List Nat} (h : LsR w w' r l) (hk : Keep fp w' w'') (hfp : ∀ c ∈ fp, c < w.heap.size) : LsR w w'' r l := by
  obtain ⟨h1, F, h2, h3⟩ := h
  exact ⟨h1, F, h2.keep hk (fun c hc => ⟨(h3 c hc).2, fun hm => by have := hfp c hm; have := (h3 c hc).1; omega⟩), fun c hc => ⟨(h3 c hc).1, Nat.lt_of_lt_of_le (h3 c hc).2 hk.size⟩⟩
theorem LsR.mono {w'' : World} {r : Value} {l : List ST} (h : LsR w w' r l) (hl : w''.heap.size ≤ w.heap.size) : LsR w'' w' r l := by
  obtain ⟨h1, F, h2, h3⟩ := h
  exact ⟨h1, F, h2, fun c hc => ⟨Nat.le_trans hl (h3 c hc).1, (h3 c hc).2⟩⟩

theorem stmts_end {deep g bx : Nat} {one : Nat → Except Flt (ST × Nat)} {stop : Nat → Bool} (hct : Ct ts) (hg : callable Tryd.prog g = true) (hone : ∀ i r, one i = .ok r → i < r.2 ∧ r.2 ≤ ts.length)
    (hst : ∀ (i : Nat) {w : World}, Rd w0 lv ts fin b vv vs w i → Goes 64 [.pointer (some ⟨b, 0, none⟩), .int .i64 (deep : Nat)] w0 w (one i) fun q r w' => StR w w' r q.1 ∧ Rd w0 lv ts fin b vv vs w' q.2 ∧ Keep [b] w w')
    (hov : ∀ (i : Nat) {w : World}, Rd w0 lv ts fin b vv vs w i → Blk w bx [.pointer (some ⟨b, 0, none⟩)] 70 → Ret Tryd.prog g [.pointer (some ⟨bx, 0, none⟩)] w fun r w' => r = .bool (stop i) ∧ w' = w)
    {i : Nat} {w : World} (h : Rd w0 lv ts fin b vv vs w i) (hx : Blk w bx [.pointer (some ⟨b, 0, none⟩)] 70) :
    Goes 42 [.pointer (some ⟨b, 0, none⟩), .int .i64 (deep : Nat), .func (.func g) #[] #[.pointer (some ⟨bx, 0, none⟩)]] w0 w (untilP stop one (ts.length + 1 - i) i) fun q r w' => LsR w w' r q.1 ∧ Rd w0 lv ts fin b vv vs w' q.2 ∧ Keep [b] w w' := by
  have hlen := hct.len
  have hbw := h.lt
  have hxw := hx.lt
  have hle0 := h.le
  refine end_of 18 Tryd.func42 rfl rfl (by simp) ?_
  (repeat (first | refine pl_pure hT rfl rfl rfl ?_ | refine pl_nil ?_ | refine rn_seq ?_ | refine rn_plain ?_ | refine rn_block ?_ | refine rn_inBlock ?_ | refine rn_skip ?_ | refine rn_true rfl ?_ | refine rn_false rfl ?_ | refine rn_exit rfl ?_ | refine pl_not rfl rfl ?_))
  obtain ⟨TOT, hTOT⟩ : ∃ TOT, TOT = untilP stop one (ts.length + 1 - i) i := ⟨_, rfl⟩
  rw [← hTOT]
  obtain ⟨B, hB⟩ : ∃ B, B = w.heap.size := ⟨_, rfl⟩
  have hw0B : w0.heap.size ≤ B := by have := h.kp.size; omega
  have hne : bx ≠ b := by
    obtain ⟨a0, c0, hb0, _⟩ := h.blk
    exact hx.ne hb0 (by decide)
  refine rn_ind (fun m σ w' => ∃ (j : Nat) (l : List ST) (sl : Value), m = ts.length + 1 - j ∧ σ = [(0, .pointer (some ⟨b, 0, none⟩)), (1, .int .i64 (deep : Nat)), (2, .func (.func g) #[] #[.pointer (some ⟨bx, 0, none⟩)]), (7, sl)] ∧
    TOT = bnd (untilP stop one (ts.length + 1 - j) j) (fun (r, k) => .ok (l ++ r, k)) ∧ l.length ≤ j ∧ RowS w' B sl l ∧ Rd w0 lv ts fin b vv vs w' j ∧ Blk w' bx [.pointer (some ⟨b, 0, none⟩)] 70 ∧ Keep [b] w w')
    _ _ ?_ ⟨i, [], .slice none 0 0, rfl, rfl, ?_, Nat.zero_le _, RowS.nil _ _, h, hx, Keep.refl _ _⟩ ?_
  · exact ⟨rfl, rfl, rfl, rfl, trivial⟩
  · rw [hTOT]
    cases untilP stop one (ts.length + 1 - i) i <;> rfl
  rintro m σ w2 ih ⟨j, l, sl, rfl, rfl, hT2, hlj, hrow, h2, hx2, hk2⟩
  have hjl := h2.le
  (repeat (first | refine pl_pure hT rfl rfl rfl ?_ | refine pl_nil ?_ | refine rn_seq ?_ | refine rn_plain ?_ | refine rn_block ?_ | refine rn_inBlock ?_ | refine rn_skip ?_ | refine rn_true rfl ?_ | refine rn_false rfl ?_ | refine rn_exit rfl ?_ | refine pl_not rfl rfl ?_))
  refine pl_op rfl rfl (opTo_call (fst := []) (cap := [.pointer (some ⟨bx, 0, none⟩)]) rfl rfl rfl rfl hg ((hov j h2 hx2).mono ?_))
  rintro r w3 ⟨rfl, rfl⟩
  have hu : untilP stop one (ts.length + 1 - j) j = if stop j then .ok ([], j) else bnd (one j) fun (t, k) => bnd (untilP stop one (ts.length - j) k) fun (r, k) => .ok (t :: r, k) := by
    have e : ts.length + 1 - j = (ts.length - j) + 1 := by omega
    rw [e]
    rfl
  obtain ⟨q, hq⟩ : ∃ q, q = stop j := ⟨_, rfl⟩
  rw [← hq] at hu ⊢
  cases q with
  | true =>
    rw [if_pos rfl] at hu
    (repeat (first | refine pl_pure hT rfl rfl rfl ?_ | refine pl_nil ?_ | refine rn_seq ?_ | refine rn_plain ?_ | refine rn_block ?_ | refine rn_inBlock ?_ | refine rn_skip ?_ | refine rn_true rfl ?_ | refine rn_false rfl ?_ | refine rn_exit rfl ?_ | refine pl_not rfl rfl ?_))
    refine rn_ret Tryd.func42 (.inl ⟨_, rfl, rfl⟩) ⟨(l, j), ?_, ⟨?_, ?_⟩, h2, hk2⟩
    · rw [hT2, hu]
      show Except.ok (l ++ [], j) = _
      rw [List.append_nil]
    · obtain ⟨xs, ho⟩ := hrow.own
      obtain ⟨a, cap, rfl⟩ := ho.form
      exact ⟨a, _, cap, rfl, own_cap ho⟩
    · obtain ⟨F, h1, h3⟩ := hrow.stmts
      exact ⟨F, h1, fun c hc => by have := h3 c hc; omega⟩
  | false =>
    rw [if_neg (by decide)] at hu
    have hT3 : TOT = bnd (one j) fun q => bnd (untilP stop one (ts.length + 1 - q.2) q.2) (fun (r, k) => .ok ((l ++ [q.1]) ++ r, k)) := by
      rw [hT2, hu]
      cases hc : one j with
      | error e => rfl
      | ok q =>
        obtain ⟨t, j'⟩ := q
        have h1 := hone _ _ hc
        dsimp only at h1
        show bnd (bnd (untilP stop one (ts.length - j) j') _) _ = bnd (untilP stop one (ts.length + 1 - j') j') _
        rw [untilP_fuel hone (ts.length - j) (ts.length + 1 - j') j' h1.2 (by omega) (by omega)]
        cases untilP stop one (ts.length + 1 - j') j' with
        | error e => rfl
        | ok q =>
          obtain ⟨r', k'⟩ := q
          show Except.ok (l ++ t :: r', k') = Except.ok (l ++ [t] ++ r', k')
          rw [List.append_assoc]
          rfl
    (repeat (first | refine pl_pure hT rfl rfl rfl ?_ | refine pl_nil ?_ | refine rn_seq ?_ | refine rn_plain ?_ | refine rn_block ?_ | refine rn_inBlock ?_ | refine rn_skip ?_ | refine rn_true rfl ?_ | refine rn_false rfl ?_ | refine rn_exit rfl ?_ | refine pl_not rfl rfl ?_))
    refine pl_opE Tryd.func42 rfl rfl (opE_call (fst := []) (cap := []) rfl rfl rfl rfl (by decide +kernel) (End.mono (hst j h2) ?_ ?_))
    rotate_left
    · rintro v w5 ⟨e, hX, r⟩
      exact ⟨e, by rw [hT3, hX]; rfl, r⟩
    rintro r w5 ⟨⟨t, j'⟩, hX, ⟨cs, F', rfl, he2, he3⟩, h5, hk5⟩
    have hj' := hone _ _ hX
    dsimp only at hj' he2
    rw [hX] at hT3
    have hT4 : TOT = bnd (untilP stop one (ts.length + 1 - j') j') (fun (r, k) => .ok ((l ++ [t]) ++ r, k)) := hT3
    have hrow5 := hrow.keep hk5 (by simp; omega)
    have hk05 := hk2.tr hk5
    have hx5 := hk5.blk hx2 (by simp; exact hne)
    have hcs1 := he2.one
    obtain ⟨c0, c1, c2, c3, c4, c5, c6, c7, c8, c9, c10, c11, rfl⟩ := list12 he2.length
    refine pl_op rfl rfl (opTo_sliceN _ _ rfl rfl (slice_stmt c0 c1 c2 c3 c4 c5 c6 c7 c8 c9 c10 c11) ?_)
    intro w6 g6 hg6 hs6 hk6 hb6
    have h6 := h5.keep0 hk6
    have hx6 := hk6.blk hx5 (by simp)
    have hrow6 := hrow5.keep hk6 (by simp)
    have hk06 := hk05.tr0 hk6
    obtain ⟨xs, hown6⟩ := hrow6.own
    have hB6 : B ≤ w6.heap.size := by have := hk06.size; omega
    refine pl_op rfl rfl (opTo_app B 52 12 160 xs [c0, c1, c2, c3, c4, c5, c6, c7, c8, c9, c10, c11] rfl rfl rfl (by decide +kernel) hown6 (hb6.range (by rfl)) rfl hcs1 (by decide) (by simp only [maxLen]; omega) (by omega) hB6 ?_)
    intro g7 cap7 w7 hown7 hor7
    have hk07 : Keep [b] w w7 := by
      rcases hor7 with ⟨h1, _, h2⟩ | ⟨_, h2, _⟩
      · exact hk06.trB h2 (by have := (hown6.lt g7 h1).1; omega)
      · exact hk06.tr0 h2
    have h7 := h6.app hown6 hw0B (by decide) hor7
    have hx7 := app_blk hx6 (fun k hk e => by have := (hown6.lt k hk).1; omega) hor7
    have hrow7 : RowS w7 B (.slice (some ⟨g7, 0, none⟩) (l.length + 1) cap7) (l ++ [t]) := by
      refine hrow6.app (he2.keep hk6 (fun c hc' => ⟨(he3 c hc').2, by simp⟩)) (fun c hc' => ?_) (fun ys hys => ?_) hor7
      · have h3 := he3 c hc'
        have := hk2.size
        refine ⟨by omega, by have := hk6.size; omega, fun e' => ?_⟩
        obtain ⟨zs, hz⟩ := hrow.own
        have := (hz.lt c e').2
        omega
      · have : ys = xs := hys.eq hown6
        subst this
        exact hown7
    (repeat (first | refine pl_pure hT rfl rfl rfl ?_ | refine pl_nil ?_ | refine rn_seq ?_ | refine rn_plain ?_ | refine rn_block ?_ | refine rn_inBlock ?_ | refine rn_skip ?_ | refine rn_true rfl ?_ | refine rn_false rfl ?_ | refine rn_exit rfl ?_ | refine pl_not rfl rfl ?_))
    refine rn_sub ?_ (ih _ _ _ ?_ ⟨j', l ++ [t], .slice (some ⟨g7, 0, none⟩) (l.length + 1) cap7, rfl, rfl, hT4, by simp; omega, hrow7, h7, hx7, hk07⟩)
    · exact ⟨rfl, rfl, rfl, rfl, trivial⟩
    · omega

theorem atBracket_ret (hct : Ct ts) {bx : Nat} (h : Rd w0 lv ts fin b vv vs w i) (hx : Blk w bx [.pointer (some ⟨b, 0, none⟩)] 70) : Ret Tryd.prog 92 [.pointer (some ⟨bx, 0, none⟩)] w fun r w' => r = .bool (isT ts i [41]) ∧ w' = w := by
  refine ret_of 4 Tryd.func92 rfl rfl (by simp) ?_
  (repeat (first | refine pl_pure hT rfl rfl rfl ?_ | refine pl_nil ?_ | refine rn_seq ?_ | refine rn_plain ?_ | refine rn_block ?_ | refine rn_inBlock ?_ | refine rn_skip ?_ | refine rn_true rfl ?_ | refine rn_false rfl ?_ | refine rn_exit rfl ?_ | refine pl_not rfl rfl ?_))
  refine pl_val _ rfl rfl (val_load1 hT rfl rfl rfl (hx.cell rfl)) ?_
  refine pl_op rfl rfl (opTo_call (fst := []) (cap := []) rfl rfl rfl rfl (by decide +kernel) ((stands_ret hct h [41] (by decide)).mono ?_))
  rintro r w2 ⟨rfl, rfl⟩
  (repeat (first | refine pl_pure hT rfl rfl rfl ?_ | refine pl_nil ?_ | refine rn_seq ?_ | refine rn_plain ?_ | refine rn_block ?_ | refine rn_inBlock ?_ | refine rn_skip ?_ | refine rn_true rfl ?_ | refine rn_false rfl ?_ | refine rn_exit rfl ?_ | refine pl_not rfl rfl ?_))
  exact rn_ret Tryd.func92 (.inl ⟨_, rfl, rfl⟩) ⟨rfl, rfl⟩
theorem atEnd_ret {bx : Nat} (h : Rd w0 lv ts fin b vv vs w i) (hx : Blk w bx [.pointer (some ⟨b, 0, none⟩)] 70) : Ret Tryd.prog 43 [.pointer (some ⟨bx, 0, none⟩)] w fun r w' => r = .bool (decide (ts.length ≤ i)) ∧ w' = w := by
  obtain ⟨a, c, hb, _⟩ := h.blk
  have hle := h.le
  refine ret_of 8 Tryd.func43 rfl rfl (by simp) ?_
  (repeat (first | refine pl_pure hT rfl rfl rfl ?_ | refine pl_nil ?_ | refine rn_seq ?_ | refine rn_plain ?_ | refine rn_block ?_ | refine rn_inBlock ?_ | refine rn_skip ?_ | refine rn_true rfl ?_ | refine rn_false rfl ?_ | refine rn_exit rfl ?_ | refine pl_not rfl rfl ?_))
  refine pl_val _ rfl rfl (val_load1 hT rfl rfl rfl (hx.cell rfl)) ?_
  (repeat (first | refine pl_pure hT rfl rfl rfl ?_ | refine pl_nil ?_ | refine rn_seq ?_ | refine rn_plain ?_ | refine rn_block ?_ | refine rn_inBlock ?_ | refine rn_skip ?_ | refine rn_true rfl ?_ | refine rn_false rfl ?_ | refine rn_exit rfl ?_ | refine pl_not rfl rfl ?_))
  refine pl_val _ rfl rfl (val_load1 hT rfl rfl rfl (hb.cell rfl)) ?_
  (repeat (first | refine pl_pure hT rfl rfl rfl ?_ | refine pl_nil ?_ | refine rn_seq ?_ | refine rn_plain ?_ | refine rn_block ?_ | refine rn_inBlock ?_ | refine rn_skip ?_ | refine rn_true rfl ?_ | refine rn_false rfl ?_ | refine rn_exit rfl ?_ | refine pl_not rfl rfl ?_))
  by_cases he : ts.length ≤ i
  · refine pl_yes rfl rfl rfl rfl rfl (by first | (simp only [cmpP]; omega) | (simp [cmpP]; done) | (simp [cmpP]; omega)) ?_
    (repeat (first | refine pl_pure hT rfl rfl rfl ?_ | refine pl_nil ?_ | refine rn_seq ?_ | refine rn_plain ?_ | refine rn_block ?_ | refine rn_inBlock ?_ | refine rn_skip ?_ | refine rn_true rfl ?_ | refine rn_false rfl ?_ | refine rn_exit rfl ?_ | refine pl_not rfl rfl ?_))
    exact rn_ret Tryd.func43 (.inl ⟨_, rfl, rfl⟩) ⟨by simp [he], rfl⟩
  · refine pl_no rfl rfl rfl rfl rfl rfl (by first | (simp only [cmpP]; omega) | (simp [cmpP]; done) | (simp [cmpP]; omega)) ?_
    (repeat (first | refine pl_pure hT rfl rfl rfl ?_ | refine pl_nil ?_ | refine rn_seq ?_ | refine rn_plain ?_ | refine rn_block ?_ | refine rn_inBlock ?_ | refine rn_skip ?_ | refine rn_true rfl ?_ | refine rn_false rfl ?_ | refine rn_exit rfl ?_ | refine pl_not rfl rfl ?_))
    exact rn_ret Tryd.func43 (.inl ⟨_, rfl, rfl⟩) ⟨by simp [he], rfl⟩

theorem list_end {deep : Nat} {one : Nat → Except Flt (ST × Nat)} (hct : Ct ts) (hone : ∀ i r, one i = .ok r → i < r.2 ∧ r.2 ≤ ts.length)
    (hst : ∀ (i : Nat) {w : World}, Rd w0 lv ts fin b vv vs w i → Goes 64 [.pointer (some ⟨b, 0, none⟩), .int .i64 (deep : Nat)] w0 w (one i) fun q r w' => StR w w' r q.1 ∧ Rd w0 lv ts fin b vv vs w' q.2 ∧ Keep [b] w w')
    (h : Rd w0 lv ts fin b vv vs w i) :
    Goes 84 [.pointer (some ⟨b, 0, none⟩), .int .i64 (deep : Nat)] w0 w (listP ts fin one i) fun q r w' => LsR w w' r q.1 ∧ Rd w0 lv ts fin b vv vs w' q.2 ∧ Keep [b] w w' := by
  have hbw := h.lt
  refine end_of 15 Tryd.func84 rfl rfl (by simp) ?_
  (repeat (first | refine pl_pure hT rfl rfl rfl ?_ | refine pl_nil ?_ | refine rn_seq ?_ | refine rn_plain ?_ | refine rn_block ?_ | refine rn_inBlock ?_ | refine rn_skip ?_ | refine rn_true rfl ?_ | refine rn_false rfl ?_ | refine rn_exit rfl ?_ | refine pl_not rfl rfl ?_))
  refine pl_op rfl rfl (opTo_boxN [.pointer (some ⟨b, 0, none⟩)] rfl rfl rfl ?_)
  intro w1 bx hbx hs1 hk1 hz1
  have h1 := h.keep0 hk1
  (repeat (first | refine pl_pure hT rfl rfl rfl ?_ | refine pl_nil ?_ | refine rn_seq ?_ | refine rn_plain ?_ | refine rn_block ?_ | refine rn_inBlock ?_ | refine rn_skip ?_ | refine rn_true rfl ?_ | refine rn_false rfl ?_ | refine rn_exit rfl ?_ | refine pl_not rfl rfl ?_))
  refine pl_val _ rfl rfl (val_load1 hT rfl rfl rfl (hz1.cell rfl)) ?_
  obtain ⟨TOT, hTOT⟩ : ∃ TOT, TOT = listP ts fin one i := ⟨_, rfl⟩
  rw [← hTOT]
  unfold listP at hTOT
  refine pl_opE Tryd.func84 rfl rfl (opE_call (fst := []) (cap := []) rfl rfl rfl rfl (by decide +kernel) (End.mono (text_end hct h1 [40] (by decide)) ?_ ?_))
  rotate_left
  · rintro v w5 ⟨e, hX, r⟩
    exact ⟨e, by rw [hTOT, hX]; rfl, r⟩
  rintro r w2 ⟨j, hX, h2, hk2⟩
  rw [hX] at hTOT
  have hT2 : TOT = bnd (untilP (fun j => isT ts j [41]) one (ts.length + 1 - j) j) fun (l, k) => bnd (mustP ts fin [41] k) fun m => .ok (l, m) := hTOT
  have hz2 := hk2.blk hz1 (by simp; omega)
  (repeat (first | refine pl_pure hT rfl rfl rfl ?_ | refine pl_nil ?_ | refine rn_seq ?_ | refine rn_plain ?_ | refine rn_block ?_ | refine rn_inBlock ?_ | refine rn_skip ?_ | refine rn_true rfl ?_ | refine rn_false rfl ?_ | refine rn_exit rfl ?_ | refine pl_not rfl rfl ?_))
  refine pl_val _ rfl rfl (val_load1 hT rfl rfl rfl (hz2.cell rfl)) ?_
  (repeat (first | refine pl_pure hT rfl rfl rfl ?_ | refine pl_nil ?_ | refine rn_seq ?_ | refine rn_plain ?_ | refine rn_block ?_ | refine rn_inBlock ?_ | refine rn_skip ?_ | refine rn_true rfl ?_ | refine rn_false rfl ?_ | refine rn_exit rfl ?_ | refine pl_not rfl rfl ?_))
  refine pl_opE Tryd.func84 rfl rfl (opE_call (fst := []) (cap := []) rfl rfl rfl rfl (by decide +kernel) (End.mono (stmts_end (stop := fun j => isT ts j [41]) (g := 92) (bx := bx) hct (by decide +kernel) hone hst (fun i w h hx => atBracket_ret hct h hx) h2 hz2) ?_ ?_))
  rotate_left
  · rintro v w5 ⟨e, hX, r⟩
    exact ⟨e, by rw [hT2, hX]; rfl, r⟩
  rintro r w3 ⟨⟨l, k⟩, hX, hL, h3, hk3⟩
  rw [hX] at hT2
  have hT3 : TOT = bnd (mustP ts fin [41] k) fun m => .ok (l, m) := hT2
  have hz3 := hk3.blk hz2 (by simp; omega)
  (repeat (first | refine pl_pure hT rfl rfl rfl ?_ | refine pl_nil ?_ | refine rn_seq ?_ | refine rn_plain ?_ | refine rn_block ?_ | refine rn_inBlock ?_ | refine rn_skip ?_ | refine rn_true rfl ?_ | refine rn_false rfl ?_ | refine rn_exit rfl ?_ | refine pl_not rfl rfl ?_))
  refine pl_val _ rfl rfl (val_load1 hT rfl rfl rfl (hz3.cell rfl)) ?_
  refine pl_opE Tryd.func84 rfl rfl (opE_call (fst := []) (cap := []) rfl rfl rfl rfl (by decide +kernel) (End.mono (text_end hct h3 [41] (by decide)) ?_ ?_))
  rotate_left
  · rintro v w5 ⟨e, hX, r⟩
    exact ⟨e, by rw [hT3, hX]; rfl, r⟩
  rintro r w4 ⟨m, hX, h4, hk4⟩
  rw [hX] at hT3
  (repeat (first | refine pl_pure hT rfl rfl rfl ?_ | refine pl_nil ?_ | refine rn_seq ?_ | refine rn_plain ?_ | refine rn_block ?_ | refine rn_inBlock ?_ | refine rn_skip ?_ | refine rn_true rfl ?_ | refine rn_false rfl ?_ | refine rn_exit rfl ?_ | refine pl_not rfl rfl ?_))
  have s1 := hk1.size
  have s2 := hk2.size
  refine rn_ret Tryd.func84 (.inl ⟨_, rfl, rfl⟩) ⟨(l, m), hT3, (hL.keep hk4 (by simp; omega)).mono (by omega), h4, (((Keep.of0 hk1).tr hk2).tr hk3).tr hk4⟩

/-! ### A statement -/
/-- A statement that is being made at b5, since w, and the reader. -/
structure Sx (w0 : World) (lv : Value) (ts : List Tok) (fin b : Nat) (vv : Value) (vs : List VarT) (w : World) (B b4 b5 kk v : Nat) (e g : ET) (lb lo : List ST) (ce cf : List Value) (bv ov : Value) (w' : World) (i : Nat) : Prop where
  rd : Rd w0 lv ts fin b vv vs w' i
  z : Blk w' b5 (scells (kk : Nat) (v : Nat) ce cf bv ov) 52
  gd : Gd w' B e g lb lo ce cf bv ov
  fm : Fm ce cf bv ov
  y : Blk w' b4 zst 52
  kp : Keep [b] w w'
  sz : B ≤ w'.heap.size
/-- What stands where. -/
structure La (w0 w : World) (b b4 b5 B : Nat) : Prop where
  h1 : b < w.heap.size
  h2 : w.heap.size ≤ b4
  h3 : b4 < b5
  h4 : b5 < B
  h5 : w0.heap.size ≤ w.heap.size
section
variable {B b4 b5 kk v v' j : Nat} {e g e' g' : ET} {lb lo lb' lo' : List ST} {ce cf ce' cf' : List Value} {bv ov bv' ov' : Value} {w'' : World}
theorem Sx.call (h : Sx w0 lv ts fin b vv vs w B b4 b5 kk v e g lb lo ce cf bv ov w' i) (la : La w0 w b b4 b5 B) (hr : Rd w0 lv ts fin b vv vs w'' j) (hk : Keep [b] w' w'') : Sx w0 lv ts fin b vv vs w B b4 b5 kk v e g lb lo ce cf bv ov w'' j := by
  obtain ⟨l1, l2, l3, l4, l5⟩ := la
  exact ⟨hr, hk.blk h.z (by simp; omega), h.gd.keep hk (by simp; omega), h.fm, hk.blk h.y (by simp; omega), h.kp.tr hk, Nat.le_trans h.sz hk.size⟩
theorem Sx.store (h : Sx w0 lv ts fin b vv vs w B b4 b5 kk v e g lb lo ce cf bv ov w' i) (la : La w0 w b b4 b5 B) (hk : Keep [b5] w' w'') (hz : Blk w'' b5 (scells (kk : Nat) (v' : Nat) ce' cf' bv' ov') 52) (hg : Gd w' B e' g' lb' lo' ce' cf' bv' ov') (hf : Fm ce' cf' bv' ov') :
    Sx w0 lv ts fin b vv vs w B b4 b5 kk v' e' g' lb' lo' ce' cf' bv' ov' w'' i := by
  obtain ⟨l1, l2, l3, l4, l5⟩ := la
  exact ⟨h.rd.put h.z (by omega) hk (by decide), hz, hg.keep hk (by simp; omega), hf, hk.blk h.y (by simp; omega), h.kp.trB hk (by omega), Nat.le_trans h.sz hk.size⟩
end
theorem XpR.cells {r : Value} {t : ET} (h : XpR w w' r t) : ∃ cs : List Value, r = .agg cs.toArray ∧ cs.length = 4 ∧ (∀ u ∈ cs, u.oneCell' = true) ∧ ∃ F : Nat → Prop, ExprV F w' cs t ∧ ∀ c, F c → w.heap.size ≤ c ∧ c < w'.heap.size := by
  obtain ⟨cs, F, h1, h2, h3⟩ := h
  exact ⟨cs, h1, h2.length, h2.one, F, h2, h3⟩

theorem stmt_end (hct : Ct ts) (hw0 : Lw w0) (hvl : vs.length ≤ 100000) : ∀ (f deep i : Nat) {w : World}, deep + f = 13 → Rd w0 lv ts fin b vv vs w i →
    Goes 64 [.pointer (some ⟨b, 0, none⟩), .int .i64 (deep : Nat)] w0 w (stmtP ts fin vs f i) fun q r w' => StR w w' r q.1 ∧ Rd w0 lv ts fin b vv vs w' q.2 ∧ Keep [b] w w' := by
  intro f
  induction f using Nat.strongRecOn with
  | _ f ih =>
  intro deep i w hdf h
  have hbw := h.lt
  refine end_of 55 Tryd.func64 rfl rfl (by simp) ?_
  (repeat (first | refine pl_pure hT rfl rfl rfl ?_ | refine pl_nil ?_ | refine rn_seq ?_ | refine rn_plain ?_ | refine rn_block ?_ | refine rn_inBlock ?_ | refine rn_skip ?_ | refine rn_true rfl ?_ | refine rn_false rfl ?_ | refine rn_exit rfl ?_ | refine pl_not rfl rfl ?_))
  refine pl_op rfl rfl (opTo_allocN _ rfl zero_st ?_)
  intro w1 b4 hb40 hs1 hk1 hz1
  have h1 := h.keep0 hk1
  (repeat (first | refine pl_pure hT rfl rfl rfl ?_ | refine pl_nil ?_ | refine rn_seq ?_ | refine rn_plain ?_ | refine rn_block ?_ | refine rn_inBlock ?_ | refine rn_skip ?_ | refine rn_true rfl ?_ | refine rn_false rfl ?_ | refine rn_exit rfl ?_ | refine pl_not rfl rfl ?_))
  obtain ⟨ex, hex⟩ : ∃ ex, ex = exprP ts fin vs (f - 1) := ⟨_, rfl⟩
  obtain ⟨one, hone⟩ : ∃ one, one = stmtP ts fin vs (f - 1) := ⟨_, rfl⟩
  rw [stmtP_eq ts fin vs hdf i, ← hone, ← hex]
  obtain ⟨TOT, hTOT⟩ : ∃ TOT, TOT = bnd (bnd (if 12 < deep then .error (wrongAt ts fin 4 i) else .ok i) (beginP ts fin verbT 7)) (fun (k, i1) => st1 ts fin vs ex one k i1) := ⟨_, rfl⟩
  rw [← hTOT]
  refine pl_opE Tryd.func64 rfl rfl (opE_call (fst := []) (cap := []) rfl rfl rfl rfl (by decide +kernel) (End.mono (begin_end hct hw0 h1 wr_verb deep) ?_ ?_))
  rotate_left
  · rintro v w2 ⟨e, hX, r⟩
    exact ⟨e, by rw [hTOT, hX]; rfl, r⟩
  rintro r w2 ⟨⟨kk, i1⟩, hX1, rfl, h2, hk2⟩
  rw [hX1] at hTOT
  have hT1 : TOT = st1 ts fin vs ex one kk i1 := hTOT
  have hd : ¬ 12 < deep := by
    intro hd
    rw [if_pos hd] at hX1
    cases hX1
  have hz2 := hk2.blk hz1 (by simp; omega)
  have hk02 : Keep [b] w w2 := (Keep.of0 hk1).tr hk2
  have hw2 : w1.heap.size ≤ w2.heap.size := hk2.size
  refine pl_val _ rfl rfl (val_build _ rfl rfl (built_st (kk : Nat)) w2) ?_
  refine pl_op rfl rfl (opTo_allocN _ rfl zero_st ?_)
  intro w3 b5 hb50 hs3 hk3 hz3
  refine pl_op rfl rfl (opTo_storeN (scells (kk : Nat) 0 zx zx (.slice none 0 0) (.slice none 0 0)) rfl rfl rfl rfl size_st hz3 (by rw [scells_len Fm.zero]; simp [zst, scells_len Fm.zero]) (scells_one Fm.zero) ?_)
  intro w4 hs4 hk4 hz4
  rw [splice_whole (by rfl)] at hz4
  have hk24 : Keep [] w2 w4 := hk3.trB hk4 (by omega)
  have hk04 : Keep [b] w w4 := hk02.tr0 hk24
  obtain ⟨B, hB⟩ : ∃ B, B = w4.heap.size := ⟨_, rfl⟩
  have la : La w0 w b b4 b5 B := ⟨hbw, by omega, by omega, by have := hz4.lt; omega, h.kp.size⟩
  have s4 : Sx w0 lv ts fin b vv vs w B b4 b5 kk 0 zeroT zeroT [] [] zx zx (.slice none 0 0) (.slice none 0 0) w4 i1 :=
    ⟨h2.keep0 hk24, hz4, Gd.zero, Fm.zero, hk24.blk hz2 (by simp), hk04, by omega⟩
  (repeat (first | refine pl_pure hT rfl rfl rfl ?_ | refine pl_nil ?_ | refine rn_seq ?_ | refine rn_plain ?_ | refine rn_block ?_ | refine rn_inBlock ?_ | refine rn_skip ?_ | refine rn_true rfl ?_ | refine rn_false rfl ?_ | refine rn_exit rfl ?_ | refine pl_not rfl rfl ?_))
  refine pl_val _ rfl rfl (val_load1 hT rfl rfl rfl (s4.z.cell rfl)) ?_
  refine pl_op rfl rfl (opTo_call (fst := []) (cap := []) rfl rfl rfl rfl (by decide +kernel) ((has_ret ((kk : Nat) : Int) w4).mono ?_))
  rintro r w4' ⟨rfl, rfl⟩
  unfold hasV
  (repeat (first | refine pl_pure hT rfl rfl rfl ?_ | refine pl_not rfl rfl ?_ | refine pl_nil ?_ | refine rn_inBlock ?_ | refine rn_skip ?_ | refine rn_true rfl ?_ | refine rn_false rfl ?_ | refine rn_exit rfl ?_))
  refine rn_seq ?_
  refine rn_with (fun σ' w' => ∃ v i2 : Nat, TOT = st2 ts fin ex one kk v i2 ∧ Sx w0 lv ts fin b vv vs w B b4 b5 kk v zeroT zeroT [] [] zx zx (.slice none 0 0) (.slice none 0 0) w' i2 ∧ Sub [(0, .pointer (some ⟨b, 0, none⟩)), (1, .int .i64 (deep : Nat)), (4, .pointer (some ⟨b4, 0, none⟩)), (5, .pointer (some ⟨b5, 0, none⟩)), (6, .bool (needE (kk : Nat))), (7, .bool (needF (kk : Nat))), (9, .bool (needB (kk : Nat))), (10, .bool (needO (kk : Nat)))] σ') ?_ ?_
  rotate_left
  · intro fin1
    refine rn_seq ?_
    refine rn_plain ?_
    obtain ⟨q, hq⟩ : ∃ q, q = needV ((kk : Nat) : Int) := ⟨_, rfl⟩
    rw [← hq]
    unfold st1 at hT1
    rw [← hq] at hT1
    cases q with
    | true =>
      have hT2 : TOT = bnd (varP ts fin vs i1) fun (v, i2) => st2 ts fin ex one kk v i2 := hT1
      (repeat (first | refine pl_pure hT rfl rfl rfl ?_ | refine pl_not rfl rfl ?_ | refine pl_nil ?_ | refine rn_inBlock ?_ | refine rn_skip ?_ | refine rn_true rfl ?_ | refine rn_false rfl ?_ | refine rn_exit rfl ?_))
      refine rn_plain ?_
      (repeat (first | refine pl_pure hT rfl rfl rfl ?_ | refine pl_not rfl rfl ?_ | refine pl_nil ?_ | refine rn_inBlock ?_ | refine rn_skip ?_ | refine rn_true rfl ?_ | refine rn_false rfl ?_ | refine rn_exit rfl ?_))
      refine pl_opE Tryd.func64 rfl rfl (opE_call (fst := []) (cap := []) rfl rfl rfl rfl (by decide +kernel) (End.mono (variable_end s4.rd hvl) ?_ ?_))
      rotate_left
      · rintro x w6 ⟨e0, hX, r⟩
        exact ⟨e0, by rw [hT2, hX]; rfl, r⟩
      rintro r w5 ⟨⟨v, j⟩, hX, rfl, h5, hk5⟩
      rw [hX] at hT2
      have s5 := s4.call la h5 hk5
      (repeat (first | refine pl_pure hT rfl rfl rfl ?_ | refine pl_not rfl rfl ?_ | refine pl_nil ?_ | refine rn_inBlock ?_ | refine rn_skip ?_ | refine rn_true rfl ?_ | refine rn_false rfl ?_ | refine rn_exit rfl ?_))
      refine pl_op rfl rfl (opTo_storeN [.int .i64 ((v : Nat) : Int)] rfl rfl rfl rfl size_int s5.z (by rw [scells_len Fm.zero]; simp) (by simp; rfl) ?_)
      intro w6 hs6 hk6 hz6
      rw [sp_v] at hz6
      (repeat (first | refine pl_pure hT rfl rfl rfl ?_ | refine pl_not rfl rfl ?_ | refine pl_nil ?_ | refine rn_inBlock ?_ | refine rn_skip ?_ | refine rn_true rfl ?_ | refine rn_false rfl ?_ | refine rn_exit rfl ?_))
      exact fin1 _ _ ⟨v, j, hT2, s5.store la hk6 hz6 s5.gd s5.fm, rfl, rfl, rfl, rfl, rfl, rfl, rfl, rfl, trivial⟩
    | false =>
      (repeat (first | refine pl_pure hT rfl rfl rfl ?_ | refine pl_not rfl rfl ?_ | refine pl_nil ?_ | refine rn_inBlock ?_ | refine rn_skip ?_ | refine rn_true rfl ?_ | refine rn_false rfl ?_ | refine rn_exit rfl ?_))
      exact fin1 _ _ ⟨0, i1, hT1, s4, rfl, rfl, rfl, rfl, rfl, rfl, rfl, rfl, trivial⟩
  rintro σ' w5 ⟨v, i, hTT, s5, hsub⟩
  refine rn_sub hsub ?_
  clear hsub
  refine rn_seq ?_
  refine rn_with (fun σ' w' => ∃ (v : Nat) (e : ET) (ce : List Value) (k : Nat), TOT = st3 ts fin ex one kk v e k ∧ Sx w0 lv ts fin b vv vs w B b4 b5 kk v e zeroT [] [] ce zx (.slice none 0 0) (.slice none 0 0) w' k ∧ Sub [(0, .pointer (some ⟨b, 0, none⟩)), (1, .int .i64 (deep : Nat)), (4, .pointer (some ⟨b4, 0, none⟩)), (5, .pointer (some ⟨b5, 0, none⟩)), (7, .bool (needF (kk : Nat))), (9, .bool (needB (kk : Nat))), (10, .bool (needO (kk : Nat)))] σ') ?_ ?_
  rotate_left
  · intro fin1
    refine rn_seq ?_
    refine rn_plain ?_
    obtain ⟨q, hq⟩ : ∃ q, q = needE ((kk : Nat) : Int) := ⟨_, rfl⟩
    rw [← hq]
    unfold st2 at hTT
    rw [← hq] at hTT
    cases q with
    | true =>
      have hT2 : TOT = bnd (ex i) fun (t, k) => st3 ts fin ex one kk v t k := hTT
      (repeat (first | refine pl_pure hT rfl rfl rfl ?_ | refine pl_not rfl rfl ?_ | refine pl_nil ?_ | refine rn_inBlock ?_ | refine rn_skip ?_ | refine rn_true rfl ?_ | refine rn_false rfl ?_ | refine rn_exit rfl ?_))
      refine rn_plain ?_
      (repeat (first | refine pl_pure hT rfl rfl rfl ?_ | refine pl_not rfl rfl ?_ | refine pl_nil ?_ | refine rn_inBlock ?_ | refine rn_skip ?_ | refine rn_true rfl ?_ | refine rn_false rfl ?_ | refine rn_exit rfl ?_))
      refine pl_num (((deep + 1 : Nat) : Int)) rfl rfl rfl rfl rfl (by simp only [ariP]; omega) ?_
      refine pl_opE Tryd.func64 rfl rfl (opE_call (fst := []) (cap := []) rfl rfl rfl rfl (by decide +kernel) (End.mono (expr_end hct hw0 hvl (f - 1) (deep + 1) i (by omega) s5.rd) ?_ ?_))
      rotate_left
      · rintro x w6 ⟨e0, hX, r⟩
        rw [← hex] at hX
        exact ⟨e0, by rw [hT2, hX]; rfl, r⟩
      rintro r w6 ⟨⟨t, j⟩, hX, hE, h6, hk6⟩
      rw [← hex] at hX
      rw [hX] at hT2
      obtain ⟨cs, rfl, hcs4, hcs1, F', he2, he3⟩ := hE.cells
      have s6 := s5.call la h6 hk6
      (repeat (first | refine pl_pure hT rfl rfl rfl ?_ | refine pl_not rfl rfl ?_ | refine pl_nil ?_ | refine rn_inBlock ?_ | refine rn_skip ?_ | refine rn_true rfl ?_ | refine rn_false rfl ?_ | refine rn_exit rfl ?_))
      refine pl_op rfl rfl (opTo_storeN cs rfl rfl rfl rfl (by rw [hcs4]; exact size_expr) s6.z (by rw [scells_len s6.fm, hcs4]; decide) hcs1 ?_)
      intro w7 hs7 hk7 hz7
      have hz7' := hz7
      rw [show splice _ _ cs = _ from sp_e (op := ((kk : Nat) : Int)) (v := ((v : Nat) : Int)) s6.fm hcs4] at hz7'
      (repeat (first | refine pl_pure hT rfl rfl rfl ?_ | refine pl_not rfl rfl ?_ | refine pl_nil ?_ | refine rn_inBlock ?_ | refine rn_skip ?_ | refine rn_true rfl ?_ | refine rn_false rfl ?_ | refine rn_exit rfl ?_))
      refine fin1 _ _ ⟨v, t, cs, j, hT2, s6.store la hk7 hz7' ?_ ⟨hcs4, s6.fm.lf, hcs1, s6.fm.of, s6.fm.bv, s6.fm.ov⟩, rfl, rfl, rfl, rfl, rfl, rfl, rfl, trivial⟩
      obtain ⟨F, hF, h1, h2, h3, h4⟩ := s6.gd
      refine ⟨fun c => F c ∨ F' c, ?_, he2.mono fun c h => .inr h, h2.mono fun c h => .inl h, h3.mono fun c h => .inl h, h4.mono fun c h => .inl h⟩
      rintro c (h | h)
      · exact hF c h
      · have := he3 c h
        have := s5.sz
        exact ⟨by omega, (he3 c h).2⟩
    | false =>
      (repeat (first | refine pl_pure hT rfl rfl rfl ?_ | refine pl_not rfl rfl ?_ | refine pl_nil ?_ | refine rn_inBlock ?_ | refine rn_skip ?_ | refine rn_true rfl ?_ | refine rn_false rfl ?_ | refine rn_exit rfl ?_))
      exact fin1 _ _ ⟨v, zeroT, zx, i, hTT, s5, rfl, rfl, rfl, rfl, rfl, rfl, rfl, trivial⟩
  rintro σ' w5 ⟨v, e, ce, i, hTT, s5, hsub⟩
  refine rn_sub hsub ?_
  clear hsub
  refine rn_seq ?_
  refine rn_with (fun σ' w' => ∃ (v : Nat) (e g : ET) (ce cf : List Value) (k : Nat), TOT = st4 ts fin one kk v e g k ∧ Sx w0 lv ts fin b vv vs w B b4 b5 kk v e g [] [] ce cf (.slice none 0 0) (.slice none 0 0) w' k ∧ Sub [(0, .pointer (some ⟨b, 0, none⟩)), (1, .int .i64 (deep : Nat)), (4, .pointer (some ⟨b4, 0, none⟩)), (5, .pointer (some ⟨b5, 0, none⟩)), (9, .bool (needB (kk : Nat))), (10, .bool (needO (kk : Nat)))] σ') ?_ ?_
  rotate_left
  · intro fin1
    refine rn_seq ?_
    refine rn_plain ?_
    obtain ⟨q, hq⟩ : ∃ q, q = needF ((kk : Nat) : Int) := ⟨_, rfl⟩
    rw [← hq]
    unfold st3 at hTT
    rw [← hq] at hTT
    cases q with
    | true =>
      have hT2 : TOT = bnd (ex i) fun (t, k) => st4 ts fin one kk v e t k := hTT
      (repeat (first | refine pl_pure hT rfl rfl rfl ?_ | refine pl_not rfl rfl ?_ | refine pl_nil ?_ | refine rn_inBlock ?_ | refine rn_skip ?_ | refine rn_true rfl ?_ | refine rn_false rfl ?_ | refine rn_exit rfl ?_))
      refine rn_plain ?_
      (repeat (first | refine pl_pure hT rfl rfl rfl ?_ | refine pl_not rfl rfl ?_ | refine pl_nil ?_ | refine rn_inBlock ?_ | refine rn_skip ?_ | refine rn_true rfl ?_ | refine rn_false rfl ?_ | refine rn_exit rfl ?_))
      refine pl_num (((deep + 1 : Nat) : Int)) rfl rfl rfl rfl rfl (by simp only [ariP]; omega) ?_
      refine pl_opE Tryd.func64 rfl rfl (opE_call (fst := []) (cap := []) rfl rfl rfl rfl (by decide +kernel) (End.mono (expr_end hct hw0 hvl (f - 1) (deep + 1) i (by omega) s5.rd) ?_ ?_))
      rotate_left
      · rintro x w6 ⟨e0, hX, r⟩
        rw [← hex] at hX
        exact ⟨e0, by rw [hT2, hX]; rfl, r⟩
      rintro r w6 ⟨⟨t, j⟩, hX, hE, h6, hk6⟩
      rw [← hex] at hX
      rw [hX] at hT2
      obtain ⟨cs, rfl, hcs4, hcs1, F', he2, he3⟩ := hE.cells
      have s6 := s5.call la h6 hk6
      (repeat (first | refine pl_pure hT rfl rfl rfl ?_ | refine pl_not rfl rfl ?_ | refine pl_nil ?_ | refine rn_inBlock ?_ | refine rn_skip ?_ | refine rn_true rfl ?_ | refine rn_false rfl ?_ | refine rn_exit rfl ?_))
      refine pl_op rfl rfl (opTo_storeN cs rfl rfl rfl rfl (by rw [hcs4]; exact size_expr) s6.z (by rw [scells_len s6.fm, hcs4]; decide) hcs1 ?_)
      intro w7 hs7 hk7 hz7
      have hz7' := hz7
      rw [show splice _ _ cs = _ from sp_f (op := ((kk : Nat) : Int)) (v := ((v : Nat) : Int)) s6.fm hcs4] at hz7'
      (repeat (first | refine pl_pure hT rfl rfl rfl ?_ | refine pl_not rfl rfl ?_ | refine pl_nil ?_ | refine rn_inBlock ?_ | refine rn_skip ?_ | refine rn_true rfl ?_ | refine rn_false rfl ?_ | refine rn_exit rfl ?_))
      refine fin1 _ _ ⟨v, e, t, ce, cs, j, hT2, s6.store la hk7 hz7' ?_ ⟨s6.fm.le, hcs4, s6.fm.oe, hcs1, s6.fm.bv, s6.fm.ov⟩, rfl, rfl, rfl, rfl, rfl, rfl, trivial⟩
      obtain ⟨F, hF, h1, h2, h3, h4⟩ := s6.gd
      refine ⟨fun c => F c ∨ F' c, ?_, h1.mono fun c h => .inl h, he2.mono fun c h => .inr h, h3.mono fun c h => .inl h, h4.mono fun c h => .inl h⟩
      rintro c (h | h)
      · exact hF c h
      · have := he3 c h
        have := s5.sz
        exact ⟨by omega, (he3 c h).2⟩
    | false =>
      (repeat (first | refine pl_pure hT rfl rfl rfl ?_ | refine pl_not rfl rfl ?_ | refine pl_nil ?_ | refine rn_inBlock ?_ | refine rn_skip ?_ | refine rn_true rfl ?_ | refine rn_false rfl ?_ | refine rn_exit rfl ?_))
      exact fin1 _ _ ⟨v, e, zeroT, ce, zx, i, hTT, s5, rfl, rfl, rfl, rfl, rfl, rfl, trivial⟩
  rintro σ' w5 ⟨v, e, g, ce, cf, i, hTT, s5, hsub⟩
  refine rn_sub hsub ?_
  clear hsub
  refine rn_seq ?_
  refine rn_with (fun σ' w' => ∃ (v : Nat) (e g : ET) (lb : List ST) (ce cf : List Value) (bv : Value) (k : Nat), TOT = st5 ts fin one kk v e g lb k ∧ Sx w0 lv ts fin b vv vs w B b4 b5 kk v e g lb [] ce cf bv (.slice none 0 0) w' k ∧ Sub [(0, .pointer (some ⟨b, 0, none⟩)), (1, .int .i64 (deep : Nat)), (4, .pointer (some ⟨b4, 0, none⟩)), (5, .pointer (some ⟨b5, 0, none⟩)), (10, .bool (needO (kk : Nat)))] σ') ?_ ?_
  rotate_left
  · intro fin1
    refine rn_seq ?_
    refine rn_plain ?_
    obtain ⟨q, hq⟩ : ∃ q, q = needB ((kk : Nat) : Int) := ⟨_, rfl⟩
    rw [← hq]
    unfold st4 at hTT
    rw [← hq] at hTT
    cases q with
    | true =>
      have hT2 : TOT = bnd (listP ts fin one i) fun (t, k) => st5 ts fin one kk v e g t k := hTT
      (repeat (first | refine pl_pure hT rfl rfl rfl ?_ | refine pl_not rfl rfl ?_ | refine pl_nil ?_ | refine rn_inBlock ?_ | refine rn_skip ?_ | refine rn_true rfl ?_ | refine rn_false rfl ?_ | refine rn_exit rfl ?_))
      refine rn_plain ?_
      (repeat (first | refine pl_pure hT rfl rfl rfl ?_ | refine pl_not rfl rfl ?_ | refine pl_nil ?_ | refine rn_inBlock ?_ | refine rn_skip ?_ | refine rn_true rfl ?_ | refine rn_false rfl ?_ | refine rn_exit rfl ?_))
      refine pl_num (((deep + 1 : Nat) : Int)) rfl rfl rfl rfl rfl (by simp only [ariP]; omega) ?_
      refine pl_opE Tryd.func64 rfl rfl (opE_call (fst := []) (cap := []) rfl rfl rfl rfl (by decide +kernel) (End.mono (list_end (one := stmtP ts fin vs (f - 1)) (deep := deep + 1) hct (stmtP_ok vs (f - 1)) (fun i w h => ih (f - 1) (by omega) (deep + 1) i (by omega) h) s5.rd) ?_ ?_))
      rotate_left
      · rintro x w6 ⟨e0, hX, r⟩
        rw [← hone] at hX
        exact ⟨e0, by rw [hT2, hX]; rfl, r⟩
      rintro r w6 ⟨⟨t, j⟩, hX, hL, h6, hk6⟩
      rw [← hone] at hX
      rw [hX] at hT2
      obtain ⟨⟨a, n, c, rfl, _⟩, F', he2, he3⟩ := hL
      have s6 := s5.call la h6 hk6
      (repeat (first | refine pl_pure hT rfl rfl rfl ?_ | refine pl_not rfl rfl ?_ | refine pl_nil ?_ | refine rn_inBlock ?_ | refine rn_skip ?_ | refine rn_true rfl ?_ | refine rn_false rfl ?_ | refine rn_exit rfl ?_))
      refine pl_op rfl rfl (opTo_storeN [.slice a n c] rfl rfl rfl rfl size_sts s6.z (by rw [scells_len s6.fm]; simp) (by simp; rfl) ?_)
      intro w7 hs7 hk7 hz7
      have hz7' := hz7
      rw [show splice _ _ [.slice a n c] = _ from sp_b (op := ((kk : Nat) : Int)) (v := ((v : Nat) : Int)) s6.fm (.slice a n c)] at hz7'
      (repeat (first | refine pl_pure hT rfl rfl rfl ?_ | refine pl_not rfl rfl ?_ | refine pl_nil ?_ | refine rn_inBlock ?_ | refine rn_skip ?_ | refine rn_true rfl ?_ | refine rn_false rfl ?_ | refine rn_exit rfl ?_))
      refine fin1 _ _ ⟨v, e, g, t, ce, cf, .slice a n c, j, hT2, s6.store la hk7 hz7' ?_ ⟨s6.fm.le, s6.fm.lf, s6.fm.oe, s6.fm.of, rfl, s6.fm.ov⟩, rfl, rfl, rfl, rfl, rfl, trivial⟩
      obtain ⟨F, hF, h1, h2, h3, h4⟩ := s6.gd
      refine ⟨fun c => F c ∨ F' c, ?_, h1.mono fun c h => .inl h, h2.mono fun c h => .inl h, he2.mono fun c h => .inr h, h4.mono fun c h => .inl h⟩
      rintro c (h | h)
      · exact hF c h
      · have := he3 c h
        have := s5.sz
        exact ⟨by omega, (he3 c h).2⟩
    | false =>
      (repeat (first | refine pl_pure hT rfl rfl rfl ?_ | refine pl_not rfl rfl ?_ | refine pl_nil ?_ | refine rn_inBlock ?_ | refine rn_skip ?_ | refine rn_true rfl ?_ | refine rn_false rfl ?_ | refine rn_exit rfl ?_))
      exact fin1 _ _ ⟨v, e, g, [], ce, cf, (.slice none 0 0), i, hTT, s5, rfl, rfl, rfl, rfl, rfl, trivial⟩
  rintro σ' w5 ⟨v, e, g, lb, ce, cf, bv, i, hTT, s5, hsub⟩
  refine rn_sub hsub ?_
  clear hsub
  refine rn_seq ?_
  refine rn_with (fun σ' w' => ∃ (v : Nat) (e g : ET) (lb lo : List ST) (ce cf : List Value) (bv ov : Value) (k : Nat), TOT = st6 ts fin kk v e g lb lo k ∧ Sx w0 lv ts fin b vv vs w B b4 b5 kk v e g lb lo ce cf bv ov w' k ∧ Sub [(0, .pointer (some ⟨b, 0, none⟩)), (1, .int .i64 (deep : Nat)), (4, .pointer (some ⟨b4, 0, none⟩)), (5, .pointer (some ⟨b5, 0, none⟩))] σ') ?_ ?_
  rotate_left
  · intro fin1
    refine rn_seq ?_
    refine rn_plain ?_
    obtain ⟨q, hq⟩ : ∃ q, q = needO ((kk : Nat) : Int) := ⟨_, rfl⟩
    rw [← hq]
    unfold st5 at hTT
    rw [← hq] at hTT
    cases q with
    | true =>
      have hT2 : TOT = bnd (listP ts fin one i) fun (t, k) => st6 ts fin kk v e g lb t k := hTT
      (repeat (first | refine pl_pure hT rfl rfl rfl ?_ | refine pl_not rfl rfl ?_ | refine pl_nil ?_ | refine rn_inBlock ?_ | refine rn_skip ?_ | refine rn_true rfl ?_ | refine rn_false rfl ?_ | refine rn_exit rfl ?_))
      refine rn_plain ?_
      (repeat (first | refine pl_pure hT rfl rfl rfl ?_ | refine pl_not rfl rfl ?_ | refine pl_nil ?_ | refine rn_inBlock ?_ | refine rn_skip ?_ | refine rn_true rfl ?_ | refine rn_false rfl ?_ | refine rn_exit rfl ?_))
      refine pl_num (((deep + 1 : Nat) : Int)) rfl rfl rfl rfl rfl (by simp only [ariP]; omega) ?_
      refine pl_opE Tryd.func64 rfl rfl (opE_call (fst := []) (cap := []) rfl rfl rfl rfl (by decide +kernel) (End.mono (list_end (one := stmtP ts fin vs (f - 1)) (deep := deep + 1) hct (stmtP_ok vs (f - 1)) (fun i w h => ih (f - 1) (by omega) (deep + 1) i (by omega) h) s5.rd) ?_ ?_))
      rotate_left
      · rintro x w6 ⟨e0, hX, r⟩
        rw [← hone] at hX
        exact ⟨e0, by rw [hT2, hX]; rfl, r⟩
      rintro r w6 ⟨⟨t, j⟩, hX, hL, h6, hk6⟩
      rw [← hone] at hX
      rw [hX] at hT2
      obtain ⟨⟨a, n, c, rfl, _⟩, F', he2, he3⟩ := hL
      have s6 := s5.call la h6 hk6
      (repeat (first | refine pl_pure hT rfl rfl rfl ?_ | refine pl_not rfl rfl ?_ | refine pl_nil ?_ | refine rn_inBlock ?_ | refine rn_skip ?_ | refine rn_true rfl ?_ | refine rn_false rfl ?_ | refine rn_exit rfl ?_))
      refine pl_op rfl rfl (opTo_storeN [.slice a n c] rfl rfl rfl rfl size_sts s6.z (by rw [scells_len s6.fm]; simp) (by simp; rfl) ?_)
      intro w7 hs7 hk7 hz7
      have hz7' := hz7
      rw [show splice _ _ [.slice a n c] = _ from sp_o (op := ((kk : Nat) : Int)) (v := ((v : Nat) : Int)) s6.fm (.slice a n c)] at hz7'
      (repeat (first | refine pl_pure hT rfl rfl rfl ?_ | refine pl_not rfl rfl ?_ | refine pl_nil ?_ | refine rn_inBlock ?_ | refine rn_skip ?_ | refine rn_true rfl ?_ | refine rn_false rfl ?_ | refine rn_exit rfl ?_))
      refine fin1 _ _ ⟨v, e, g, lb, t, ce, cf, bv, .slice a n c, j, hT2, s6.store la hk7 hz7' ?_ ⟨s6.fm.le, s6.fm.lf, s6.fm.oe, s6.fm.of, s6.fm.bv, rfl⟩, rfl, rfl, rfl, rfl, trivial⟩
      obtain ⟨F, hF, h1, h2, h3, h4⟩ := s6.gd
      refine ⟨fun c => F c ∨ F' c, ?_, h1.mono fun c h => .inl h, h2.mono fun c h => .inl h, h3.mono fun c h => .inl h, he2.mono fun c h => .inr h⟩
      rintro c (h | h)
      · exact hF c h
      · have := he3 c h
        have := s5.sz
        exact ⟨by omega, (he3 c h).2⟩
    | false =>
      (repeat (first | refine pl_pure hT rfl rfl rfl ?_ | refine pl_not rfl rfl ?_ | refine pl_nil ?_ | refine rn_inBlock ?_ | refine rn_skip ?_ | refine rn_true rfl ?_ | refine rn_false rfl ?_ | refine rn_exit rfl ?_))
      exact fin1 _ _ ⟨v, e, g, lb, [], ce, cf, bv, (.slice none 0 0), i, hTT, s5, rfl, rfl, rfl, rfl, trivial⟩
  rintro σ' w5 ⟨v, e, g, lb, lo, ce, cf, bv, ov, i, hTT, s5, hsub⟩
  refine rn_sub hsub ?_
  unfold st6 at hTT
  (repeat (first | refine pl_pure hT rfl rfl rfl ?_ | refine pl_nil ?_ | refine rn_seq ?_ | refine rn_plain ?_ | refine rn_block ?_ | refine rn_inBlock ?_ | refine rn_skip ?_ | refine rn_true rfl ?_ | refine rn_false rfl ?_ | refine rn_exit rfl ?_ | refine pl_not rfl rfl ?_))
  refine pl_opE Tryd.func64 rfl rfl (opE_call (fst := []) (cap := []) rfl rfl rfl rfl (by decide +kernel) (End.mono (text_end hct s5.rd [41] (by decide)) ?_ ?_))
  rotate_left
  · rintro x w6 ⟨e0, hX, r⟩
    exact ⟨e0, by rw [hTT, hX]; rfl, r⟩
  rintro r w6 ⟨j, hX, h6, hk6⟩
  rw [hX] at hTT
  have s6 := s5.call la h6 hk6
  have hl12 : (scells ((kk : Nat) : Int) ((v : Nat) : Int) ce cf bv ov).length = 12 := scells_len s6.fm
  (repeat (first | refine pl_pure hT rfl rfl rfl ?_ | refine pl_nil ?_ | refine rn_seq ?_ | refine rn_plain ?_ | refine rn_block ?_ | refine rn_inBlock ?_ | refine rn_skip ?_ | refine rn_true rfl ?_ | refine rn_false rfl ?_ | refine rn_exit rfl ?_ | refine pl_not rfl rfl ?_))
  refine pl_val _ rfl rfl (val_load (scells (kk : Nat) (v : Nat) ce cf bv ov) E.hT rfl rfl (by rw [hl12]; rfl) (s6.z.range (by simp))) ?_
  refine pl_op rfl rfl (opTo_storeN (scells (kk : Nat) (v : Nat) ce cf bv ov) rfl rfl rfl rfl (by rw [hl12]; exact size_st) s6.y (by rw [hl12]; simp [zst, scells_len Fm.zero]) (scells_one s6.fm) ?_)
  intro w7 hs7 hk7 hy7
  rw [splice_whole (by rw [hl12]; simp [zst, scells_len Fm.zero])] at hy7
  (repeat (first | refine pl_pure hT rfl rfl rfl ?_ | refine pl_nil ?_ | refine rn_seq ?_ | refine rn_plain ?_ | refine rn_block ?_ | refine rn_inBlock ?_ | refine rn_skip ?_ | refine rn_true rfl ?_ | refine rn_false rfl ?_ | refine rn_exit rfl ?_ | refine pl_not rfl rfl ?_))
  obtain ⟨l1, l2, l3, l4, l5⟩ := la
  obtain ⟨F, hF, h1, h2, h3, h4⟩ := s6.gd.keep hk7 (by simp; omega)
  refine rn_ret Tryd.func64 (.inr (.inr (.inl ⟨_, _, _, rfl, rfl, blk_loadVar E.hT hy7 (by rw [hl12]; rfl)⟩))) ⟨(.mk (kk : Nat) (v : Nat) e g lb lo, j), hTT, ⟨scells (kk : Nat) (v : Nat) ce cf bv ov, F, rfl, StmtV.of h1 h2 h3 h4, fun c hc => ?_⟩, s6.rd.put s6.y (by omega) hk7 (by decide), s6.kp.trB hk7 (by omega)⟩
  have := hF c hc
  have := hk04.size
  omega
end
end E
end Go.Proofs.YthbkcadiejfgaacDoor

/- The landed reader: a variable that is said, a program. -/
namespace Go.Proofs.YthbkcadiejfgaacDoor
set_option maxRecDepth 20000
set_option maxHeartbeats 4000000
namespace E
open Go.Proofs

section
variable {w0 w w' : World} {lv vv : Value} {ts : List Tok} {fin b i : Nat} {vs : List VarT}
theorem isT_must {s : List UInt8} (h : isT ts i s = true) : mustP ts fin s i = .ok (i + 1) := by
  unfold mustP
  rw [if_pos h]

theorem let_end (hct : Ct ts) (hvl : vs.length ≤ 100000) (h : Rd w0 lv ts fin b vv vs w i) (hlet : isT ts i letT = true) :
    Goes 41 [.pointer (some ⟨b, 0, none⟩)] w0 w (letP ts fin i) fun q _ w' => (∃ vv', Rd w0 lv ts fin b vv' (vs ++ [q.1]) w' q.2) ∧ ∃ fp : List Nat, (∀ k ∈ fp, k = b ∨ vv.ownBlock = some k) ∧ Keep fp w w' := by
  have hbw := h.lt
  refine end_of 35 Tryd.func41 rfl rfl (by simp) ?_
  (repeat (first | refine pl_pure hT rfl rfl rfl ?_ | refine pl_nil ?_ | refine rn_seq ?_ | refine rn_plain ?_ | refine rn_block ?_ | refine rn_inBlock ?_ | refine rn_skip ?_ | refine rn_true rfl ?_ | refine rn_false rfl ?_ | refine rn_exit rfl ?_ | refine pl_not rfl rfl ?_))
  obtain ⟨TOT, hTOT⟩ : ∃ TOT, TOT = letP ts fin i := ⟨_, rfl⟩
  rw [← hTOT]
  have hT1 : TOT = bnd (takeP ts fin (fun t => nameB t.text) (i + 1)) fun q => bnd (takeP ts fin (fun t => t.num) q.2) fun p => .ok ((str q.1.text, sizeP p.1.val), p.2) := by
    rw [hTOT]
    unfold letP
    rw [name_take]
    cases takeP ts fin (fun t => nameB t.text) (i + 1) with
    | error e => rfl
    | ok q =>
      show bnd (numP ts fin q.2) _ = bnd (takeP ts fin (fun t => t.num) q.2) _
      rw [num_take]
      cases takeP ts fin (fun t => t.num) q.2 <;> rfl
  refine pl_opE Tryd.func41 rfl rfl (opE_call (fst := []) (cap := []) rfl rfl rfl rfl (by decide +kernel) (End.mono (text_end hct h letT (by decide)) ?_ ?_))
  rotate_left
  · rintro x w1 ⟨e, hX, r⟩
    rw [isT_must hlet] at hX
    cases hX
  rintro r w1 ⟨j, hX, h1, hk1⟩
  rw [isT_must hlet] at hX
  injection hX with hX
  subst hX
  (repeat (first | refine pl_pure hT rfl rfl rfl ?_ | refine pl_nil ?_ | refine rn_seq ?_ | refine rn_plain ?_ | refine rn_block ?_ | refine rn_inBlock ?_ | refine rn_skip ?_ | refine rn_true rfl ?_ | refine rn_false rfl ?_ | refine rn_exit rfl ?_ | refine pl_not rfl rfl ?_))
  refine pl_opE Tryd.func41 rfl rfl (opE_call (fst := []) (cap := []) rfl rfl rfl rfl (by decide +kernel) (End.mono (takeName_end h1) ?_ ?_))
  rotate_left
  · rintro x w1 ⟨e, hX, r⟩
    exact ⟨e, by rw [hT1, hX]; rfl, r⟩
  rintro r w2 ⟨⟨t, j⟩, hX, rfl, h2, hk2⟩
  rw [hX] at hT1
  have hT2 : TOT = bnd (takeP ts fin (fun t => t.num) j) fun p => .ok ((str t.text, sizeP p.1.val), p.2) := hT1
  refine pl_op rfl rfl (opTo_allocN _ rfl zero_tok ?_)
  intro w3 b2 hb20 hs3 hk3 hz3
  refine pl_op rfl rfl (opTo_storeN (tokL t) rfl rfl rfl rfl size_tok hz3 (by simp [tokC, tokL]) (tokC_one _ _ _ _) ?_)
  intro w4 hs4 hk4 hz4
  rw [splice_whole (by rfl)] at hz4
  have hk24 : Keep [] w2 w4 := hk3.trB hk4 (by omega)
  have h4 := h2.keep0 hk24
  have hk04 : Keep [b] w w4 := (hk1.tr hk2).tr0 hk24
  have hb2w : w.heap.size ≤ b2 := by have := hk1.size; have := hk2.size; omega
  (repeat (first | refine pl_pure hT rfl rfl rfl ?_ | refine pl_nil ?_ | refine rn_seq ?_ | refine rn_plain ?_ | refine rn_block ?_ | refine rn_inBlock ?_ | refine rn_skip ?_ | refine rn_true rfl ?_ | refine rn_false rfl ?_ | refine rn_exit rfl ?_ | refine pl_not rfl rfl ?_))
  refine pl_opE Tryd.func41 rfl rfl (opE_call (fst := []) (cap := []) rfl rfl rfl rfl (by decide +kernel) (End.mono (takeNum_end h4) ?_ ?_))
  rotate_left
  · rintro x w1 ⟨e, hX, r⟩
    exact ⟨e, by rw [hT2, hX]; rfl, r⟩
  rintro r w5 ⟨⟨u, k⟩, hX, rfl, h5, hk5⟩
  rw [hX] at hT2
  have hT3 : TOT = .ok ((str t.text, sizeP u.val), k) := hT2
  have hz5 := hk5.blk hz4 (by simp; omega)
  refine pl_op rfl rfl (opTo_allocN _ rfl zero_tok ?_)
  intro w6 b3 hb30 hs6 hk6 hx6
  refine pl_op rfl rfl (opTo_storeN (tokL u) rfl rfl rfl rfl size_tok hx6 (by simp [tokC, tokL]) (tokC_one _ _ _ _) ?_)
  intro w7 hs7 hk7 hx7
  rw [splice_whole (by rfl)] at hx7
  have hk57 : Keep [] w5 w7 := hk6.trB hk7 (by omega)
  have hz7 := hk57.blk hz5 (by simp)
  (repeat (first | refine pl_pure hT rfl rfl rfl ?_ | refine pl_nil ?_ | refine rn_seq ?_ | refine rn_plain ?_ | refine rn_block ?_ | refine rn_inBlock ?_ | refine rn_skip ?_ | refine rn_true rfl ?_ | refine rn_false rfl ?_ | refine rn_exit rfl ?_ | refine pl_not rfl rfl ?_))
  refine pl_val _ rfl rfl (val_load1 hT rfl rfl rfl (hz7.cell rfl)) ?_
  refine pl_val _ rfl rfl (val_build _ rfl rfl (built_v1 (str t.text)) w7) ?_
  refine pl_op rfl rfl (opTo_allocN _ rfl zero_v ?_)
  intro w8 b4 hb40 hs8 hk8 hy8
  refine pl_op rfl rfl (opTo_storeN (vcell (str t.text, 0)) rfl rfl rfl rfl size_v hy8 (by simp [vcell]) (by simp [vcell]; constructor <;> rfl) ?_)
  intro w9 hs9 hk9 hy9
  rw [splice_whole (by rfl)] at hy9
  have hk79 : Keep [] w7 w9 := hk8.trB hk9 (by omega)
  have hx9 := hk79.blk hx7 (by simp)
  have hk59 : Keep [] w5 w9 := hk57.tr hk79
  have s5 := hk5.size
  have s04 := hk04.size
  have s57 := hk57.size
  (repeat (first | refine pl_pure hT rfl rfl rfl ?_ | refine pl_not rfl rfl ?_ | refine pl_nil ?_ | refine rn_inBlock ?_ | refine rn_skip ?_ | refine rn_true rfl ?_ | refine rn_false rfl ?_ | refine rn_exit rfl ?_))
  refine rn_seq ?_
  refine rn_with (fun σ' w' => Blk w' b4 (vcell (str t.text, sizeP u.val)) 58 ∧ Keep [] w5 w' ∧ Sub [(0, .pointer (some ⟨b, 0, none⟩)), (4, .pointer (some ⟨b4, 0, none⟩))] σ') ?_ ?_
  rotate_left
  · intro fin1
    refine rn_seq ?_
    refine rn_plain ?_
    (repeat (first | refine pl_pure hT rfl rfl rfl ?_ | refine pl_not rfl rfl ?_ | refine pl_nil ?_ | refine rn_inBlock ?_ | refine rn_skip ?_ | refine rn_true rfl ?_ | refine rn_false rfl ?_ | refine rn_exit rfl ?_))
    refine pl_val _ rfl rfl (val_load1 hT rfl rfl rfl (hx9.cell rfl)) ?_
    by_cases h1' : 1 ≤ u.val
    · refine pl_yes rfl rfl rfl rfl rfl (by first | (simp only [cmpP]; omega) | (simp [cmpP]; done) | (simp [cmpP]; omega)) ?_
      (repeat (first | refine pl_pure hT rfl rfl rfl ?_ | refine pl_not rfl rfl ?_ | refine pl_nil ?_ | refine rn_inBlock ?_ | refine rn_skip ?_ | refine rn_true rfl ?_ | refine rn_false rfl ?_ | refine rn_exit rfl ?_))
      refine pl_val _ rfl rfl (val_load1 hT rfl rfl rfl (hx9.cell rfl)) ?_
      by_cases h2' : u.val ≤ 48
      · refine pl_yes rfl rfl rfl rfl rfl (by first | (simp only [cmpP]; omega) | (simp [cmpP]; done) | (simp [cmpP]; omega)) ?_
        (repeat (first | refine pl_pure hT rfl rfl rfl ?_ | refine pl_not rfl rfl ?_ | refine pl_nil ?_ | refine rn_inBlock ?_ | refine rn_skip ?_ | refine rn_true rfl ?_ | refine rn_false rfl ?_ | refine rn_exit rfl ?_))
        refine rn_plain ?_
        (repeat (first | refine pl_pure hT rfl rfl rfl ?_ | refine pl_not rfl rfl ?_ | refine pl_nil ?_ | refine rn_inBlock ?_ | refine rn_skip ?_ | refine rn_true rfl ?_ | refine rn_false rfl ?_ | refine rn_exit rfl ?_))
        refine pl_val _ rfl rfl (val_load1 hT rfl rfl rfl (hx9.cell rfl)) ?_
        (repeat (first | refine pl_pure hT rfl rfl rfl ?_ | refine pl_not rfl rfl ?_ | refine pl_nil ?_ | refine rn_inBlock ?_ | refine rn_skip ?_ | refine rn_true rfl ?_ | refine rn_false rfl ?_ | refine rn_exit rfl ?_))
        refine pl_op rfl rfl (opTo_storeN [.int .i64 u.val] rfl rfl rfl rfl size_int hy9 (by simp [vcell]) (by simp; rfl) ?_)
        intro w10 hs10 hk10 hy10
        (repeat (first | refine pl_pure hT rfl rfl rfl ?_ | refine pl_not rfl rfl ?_ | refine pl_nil ?_ | refine rn_inBlock ?_ | refine rn_skip ?_ | refine rn_true rfl ?_ | refine rn_false rfl ?_ | refine rn_exit rfl ?_))
        refine fin1 _ _ ⟨?_, hk59.trB hk10 (by omega), rfl, rfl, trivial⟩
        have e : sizeP u.val = u.val := by
          unfold sizeP
          rw [if_pos ⟨h1', h2'⟩]
        rw [e]
        exact hy10
      · refine pl_no rfl rfl rfl rfl rfl rfl (by first | (simp only [cmpP]; omega) | (simp [cmpP]; done) | (simp [cmpP]; omega)) ?_
        (repeat (first | refine pl_pure hT rfl rfl rfl ?_ | refine pl_not rfl rfl ?_ | refine pl_nil ?_ | refine rn_inBlock ?_ | refine rn_skip ?_ | refine rn_true rfl ?_ | refine rn_false rfl ?_ | refine rn_exit rfl ?_))
        refine fin1 _ _ ⟨?_, hk59, rfl, rfl, trivial⟩
        have e : sizeP u.val = 0 := by
          unfold sizeP
          rw [if_neg (by omega)]
        rw [e]
        exact hy9
    · refine pl_no rfl rfl rfl rfl rfl rfl (by first | (simp only [cmpP]; omega) | (simp [cmpP]; done) | (simp [cmpP]; omega)) ?_
      (repeat (first | refine pl_pure hT rfl rfl rfl ?_ | refine pl_not rfl rfl ?_ | refine pl_nil ?_ | refine rn_inBlock ?_ | refine rn_skip ?_ | refine rn_true rfl ?_ | refine rn_false rfl ?_ | refine rn_exit rfl ?_))
      refine fin1 _ _ ⟨?_, hk59, rfl, rfl, trivial⟩
      have e : sizeP u.val = 0 := by
        unfold sizeP
        rw [if_neg (by omega)]
      rw [e]
      exact hy9
  rintro σ' w10 ⟨hy10, hk10, hsub⟩
  refine rn_sub hsub ?_
  have h10 := h5.keep0 hk10
  obtain ⟨y, hy⟩ : ∃ y, y = (str t.text, sizeP u.val) := ⟨_, rfl⟩
  rw [← hy] at hy10 hT3
  obtain ⟨a, c, hb10, hc, ha⟩ := h10.blk
  obtain ⟨av, cv, hvv⟩ := h10.var.form
  have hkd : Keep [] w10 w10.drew := (Keep.refl _ _).drew
  refine rn_draw (fun w' => Blk w' b4 (vcell y) 58 ∧ Blk w' b (rdC (.slice a (ts.length - k) c) fin vv) 72) [10] hMix ?_
  have hS : Blk w10.drew b4 (vcell y) 58 ∧ Blk w10.drew b (rdC (.slice a (ts.length - k) c) fin vv) 72 := ⟨hkd.blk hy10 (by simp), hkd.blk hb10 (by simp)⟩
  try (first | refine dr_pure 0 hT rfl (by decide +kernel) rfl rfl rfl ?_ | refine dr_not 0 rfl (by decide +kernel) rfl rfl ?_ | refine dr_val 0 _ rfl (by decide +kernel) rfl rfl (fun w9 hS9 => val_load1 hT rfl rfl rfl (Blk.cell hS9.2 (by rfl))) hS ?_ | refine dr_yes 0 rfl (by decide +kernel) rfl rfl rfl rfl rfl (by first | (simp only [cmpP]; omega) | (simp [cmpP]; done) | (simp [cmpP]; omega)) ?_ | refine dr_no 0 rfl (by decide +kernel) rfl rfl rfl rfl rfl rfl (by first | (simp only [cmpP]; omega) | (simp [cmpP]; done) | (simp [cmpP]; omega)) ?_)
  try (first | refine dr_pure 1 hT rfl (by decide +kernel) rfl rfl rfl ?_ | refine dr_not 1 rfl (by decide +kernel) rfl rfl ?_ | refine dr_val 1 _ rfl (by decide +kernel) rfl rfl (fun w9 hS9 => val_load1 hT rfl rfl rfl (Blk.cell hS9.2 (by rfl))) hS ?_ | refine dr_yes 1 rfl (by decide +kernel) rfl rfl rfl rfl rfl (by first | (simp only [cmpP]; omega) | (simp [cmpP]; done) | (simp [cmpP]; omega)) ?_ | refine dr_no 1 rfl (by decide +kernel) rfl rfl rfl rfl rfl rfl (by first | (simp only [cmpP]; omega) | (simp [cmpP]; done) | (simp [cmpP]; omega)) ?_)
  try (first | refine dr_pure 2 hT rfl (by decide +kernel) rfl rfl rfl ?_ | refine dr_not 2 rfl (by decide +kernel) rfl rfl ?_ | refine dr_val 2 _ rfl (by decide +kernel) rfl rfl (fun w9 hS9 => val_load1 hT rfl rfl rfl (Blk.cell hS9.2 (by rfl))) hS ?_ | refine dr_yes 2 rfl (by decide +kernel) rfl rfl rfl rfl rfl (by first | (simp only [cmpP]; omega) | (simp [cmpP]; done) | (simp [cmpP]; omega)) ?_ | refine dr_no 2 rfl (by decide +kernel) rfl rfl rfl rfl rfl rfl (by first | (simp only [cmpP]; omega) | (simp [cmpP]; done) | (simp [cmpP]; omega)) ?_)
  try (first | refine dr_pure 3 hT rfl (by decide +kernel) rfl rfl rfl ?_ | refine dr_not 3 rfl (by decide +kernel) rfl rfl ?_ | refine dr_val 3 _ rfl (by decide +kernel) rfl rfl (fun w9 hS9 => val_load1 hT rfl rfl rfl (Blk.cell hS9.2 (by rfl))) hS ?_ | refine dr_yes 3 rfl (by decide +kernel) rfl rfl rfl rfl rfl (by first | (simp only [cmpP]; omega) | (simp [cmpP]; done) | (simp [cmpP]; omega)) ?_ | refine dr_no 3 rfl (by decide +kernel) rfl rfl rfl rfl rfl rfl (by first | (simp only [cmpP]; omega) | (simp [cmpP]; done) | (simp [cmpP]; omega)) ?_)
  try (first | refine dr_pure 4 hT rfl (by decide +kernel) rfl rfl rfl ?_ | refine dr_not 4 rfl (by decide +kernel) rfl rfl ?_ | refine dr_val 4 _ rfl (by decide +kernel) rfl rfl (fun w9 hS9 => val_load1 hT rfl rfl rfl (Blk.cell hS9.2 (by rfl))) hS ?_ | refine dr_yes 4 rfl (by decide +kernel) rfl rfl rfl rfl rfl (by first | (simp only [cmpP]; omega) | (simp [cmpP]; done) | (simp [cmpP]; omega)) ?_ | refine dr_no 4 rfl (by decide +kernel) rfl rfl rfl rfl rfl rfl (by first | (simp only [cmpP]; omega) | (simp [cmpP]; done) | (simp [cmpP]; omega)) ?_)
  refine dr_val 5 _ rfl (by decide +kernel) rfl rfl (fun w9 hS9 => val_load (vcell y) hT rfl rfl rfl (hS9.1.range (by rfl))) hS ?_
  refine dr_op 6 rfl (by decide +kernel) rfl rfl (opTo_sliceN _ _ rfl rfl (slice_v (.string y.1) (.int .i64 y.2)) ?_)
  intro w11 g11 hg11 hs11 hk11 hb11
  have hkd11 : Keep [] w10 w11 := hkd.tr hk11
  have hS11 : Blk w11 b4 (vcell y) 58 ∧ Blk w11 b (rdC (.slice a (ts.length - k) c) fin vv) 72 := ⟨hk11.blk hS.1 (by simp), hk11.blk hS.2 (by simp)⟩
  refine ⟨fun _ => hS11, ?_⟩
  have h11 := h10.keep0 hkd11
  have sw0 := h11.kp.size
  refine dr_op 7 rfl (by decide +kernel) rfl rfl (opTo_app w0.heap.size 58 2 24 (vs.flatMap vcell) (vcell y) rfl rfl rfl (by decide +kernel) h11.var (hb11.range (by rfl)) rfl (by intro x hx; simp only [vcell, List.mem_cons, List.not_mem_nil, or_false] at hx; rcases hx with rfl | rfl <;> rfl) (by decide) (by simp only [maxLen]; omega) (by omega) (by omega) ?_)
  intro g12 cap12 w12 hown12 hor12
  have hvw : ∀ q, vv.ownBlock = some q → q < w.heap.size := fun q hq => (h.var.lt q hq).2
  have hb4n : ∀ q, vv.ownBlock = some q → b4 ≠ q := fun q hq => by have := hvw q hq; omega
  have hbn : ∀ q, vv.ownBlock = some q → b ≠ q := fun q hq => own_ne h11.var hS11.2 (by decide) q hq
  have hS12 : Blk w12 b4 (vcell y) 58 ∧ Blk w12 b (rdC (.slice a (ts.length - k) c) fin vv) 72 := ⟨app_blk hS11.1 hb4n hor12, app_blk hS11.2 hbn hor12⟩
  have hk12 : ∃ fp : List Nat, (∀ q ∈ fp, vv.ownBlock = some q) ∧ Keep fp w11 w12 := by
    rcases hor12 with ⟨h1, _, h2⟩ | ⟨_, h2, _⟩
    · exact ⟨[g12], by simp [h1], h2⟩
    · exact ⟨[], by simp, h2⟩
  obtain ⟨fp, hfp, hk12⟩ := hk12
  refine ⟨fun _ => hS12, ?_⟩
  refine dr_pure 8 hT rfl (by decide +kernel) rfl rfl rfl ?_
  refine dr_pure 9 hT rfl (by decide +kernel) rfl rfl rfl ?_
  refine dr_op 10 rfl (by decide +kernel) rfl rfl (opTo_storeN [.slice (some ⟨g12, 0, none⟩) (vs.length + 1) cap12] rfl rfl rfl rfl size_vs hS12.2 (by simp [rdC]) (by simp; rfl) ?_)
  intro w13 hs13 hk13 hb13
  have hsp : splice (rdC (.slice a (ts.length - k) c) fin vv) 2 [.slice (some ⟨g12, 0, none⟩) (vs.length + 1) cap12] = rdC (.slice a (ts.length - k) c) fin (.slice (some ⟨g12, 0, none⟩) (vs.length + 1) cap12) := rfl
  rw [hsp] at hb13
  refine ⟨fun h => absurd (by simp) h, ?_⟩
  refine dr_done (by decide +kernel) ?_
  refine rn_end Tryd.func41 (.inr (.inl ⟨rfl, rfl⟩)) ⟨(y, k), hT3, ⟨.slice (some ⟨g12, 0, none⟩) (vs.length + 1) cap12, ?_⟩, b :: fp, ?_, ?_⟩
  · have hnew := h.new
    refine ⟨h11.le, ?_, hnew, ?_, ?_, ⟨a, c, hb13, hc, ha⟩⟩
    · refine (h11.kp.trans hk12 (fun q hq => .inr ?_)).trB hk13 hnew
      exact (h11.var.lt q (hfp q hq)).1
    · obtain ⟨Bt, ho⟩ := h11.tok
      refine ⟨Bt, ?_⟩
      have ho12 : Own w12 Bt 32 4 lv ts.length (ts.flatMap tokL) := by
        refine ho.keep hk12 (fun q hq hm => ?_)
        have hvq := hfp q hm
        rcases h11.var.2 with ⟨hv, _⟩ | ⟨g', c', cur', hv, _, hg', _⟩
        · rw [hv] at hvq; simp [Value.ownBlock] at hvq
        · rw [hv] at hvq
          simp [Value.ownBlock] at hvq
          subst hvq
          exact own_ne ho hg' (by decide) _ hq rfl
      exact ho12.keep hk13 (fun q hq => by simp; exact fun e => own_ne ho12 hS12.2 (by decide) q hq e.symm)
    · have e1 : (vs ++ [y]).length = vs.length + 1 := by simp
      have e2 : (vs ++ [y]).flatMap vcell = vs.flatMap vcell ++ vcell y := by simp
      rw [e1, e2]
      exact hown12.keep hk13 (fun q hq => by simp; exact fun e => own_ne hown12 hS12.2 (by decide) q hq e.symm)
  · intro q hq
    rcases List.mem_cons.1 hq with rfl | hq
    · exact .inl rfl
    · exact .inr (hfp q hq)
  · have hk0 : Keep (b :: fp) w w10 := ((hk04.tr hk5).tr0 hk10).mono (fun q hq => .inl (by simp at hq; simp [hq]))
    exact ((hk0.tr0 hkd11).trans hk12 (fun q hq => .inl (List.mem_cons_of_mem _ hq))).trans hk13 (fun q hq => .inl (by simp at hq; simp [hq]))
end
end E
end Go.Proofs.YthbkcadiejfgaacDoor

/- The landed reader: a program; a reader that gave up is caught; Parse. -/
namespace Go.Proofs.YthbkcadiejfgaacDoor
set_option maxRecDepth 20000
set_option maxHeartbeats 4000000
namespace E
open Go.Proofs

theorem built_pr (a a' : Option Addr) (n c n' c' : Nat) : Tryd.prog.built 38 [(0, .slice a n c), (1, .slice a' n' c')] = some [Value.slice a n c, .slice a' n' c'].toArray := by kernel_rfl

/-- A program that was made since w0. -/
def PgR (w0 w' : World) (r : Value) (vs : List VarT) (body : List ST) : Prop := CapV r ∧ ∃ F : Nat → Prop, ProgV F w' r vs body ∧ ∀ c, F c → w0.heap.size ≤ c ∧ c < w'.heap.size
theorem PgR.keep {w0 w w' : World} {r : Value} {vs : List VarT} {body : List ST} {fp : List Nat} (h : PgR w0 w r vs body) (hk : Keep fp w w') (hfp : ∀ c ∈ fp, c < w0.heap.size) : PgR w0 w' r vs body := by
  obtain ⟨h1, F, h2, h3⟩ := h
  exact ⟨h1, F, h2.keep hk (fun c hc => ⟨(h3 c hc).2, fun hm => by have := hfp c hm; have := (h3 c hc).1; omega⟩), fun c hc => ⟨(h3 c hc).1, Nat.lt_of_lt_of_le (h3 c hc).2 hk.size⟩⟩

section
variable {w0 w w' : World} {lv vv : Value} {ts : List Tok} {fin b i : Nat} {vs : List VarT}
theorem letP_lt : ∀ (i : Nat) (r : VarT × Nat), letP ts fin i = .ok r → i < r.2 ∧ r.2 ≤ ts.length := fun _ _ h => letP_ok h

theorem program_end (hct : Ct ts) (hw0 : Lw w0) (h : Rd w0 lv ts fin b (.slice none 0 0) [] w 0) :
    Goes 31 [.pointer (some ⟨b, 0, none⟩)] w0 w (readP ts fin) fun q r w' => PgR w0 w' r q.1 q.2 ∧ Keep [] w0 w' := by
  have hlen := hct.len
  have hbw := h.lt
  refine end_of 17 Tryd.func31 rfl rfl (by simp) ?_
  (repeat (first | refine pl_pure hT rfl rfl rfl ?_ | refine pl_nil ?_ | refine rn_seq ?_ | refine rn_plain ?_ | refine rn_block ?_ | refine rn_inBlock ?_ | refine rn_skip ?_ | refine rn_true rfl ?_ | refine rn_false rfl ?_ | refine rn_exit rfl ?_ | refine pl_not rfl rfl ?_))
  refine pl_op rfl rfl (opTo_boxN [.pointer (some ⟨b, 0, none⟩)] rfl rfl rfl ?_)
  intro w1 bx hbx hs1 hk1 hx1
  refine pl_op rfl rfl (opTo_allocN _ rfl zero_pr ?_)
  intro w2 b2 hb20 hs2 hk2 hz2
  have hk02 := hk1.tr hk2
  have h2 := h.keep0 hk02
  have hx2 := hk2.blk hx1 (by simp)
  obtain ⟨TOT, hTOT⟩ : ∃ TOT, TOT = readP ts fin := ⟨_, rfl⟩
  rw [← hTOT]
  have hT0 : TOT = bnd (untilP (fun j => !isT ts j letT) (letP ts fin) (ts.length + 1 - 0) 0) fun (r, k) => bnd (bodyP ts fin ([] ++ r) k) fun (b, _) => .ok ([] ++ r, b) := by
    rw [hTOT]
    rfl
  have hw0w : w0.heap.size ≤ w.heap.size := h.kp.size
  (repeat (first | refine pl_pure hT rfl rfl rfl ?_ | refine pl_nil ?_ | refine rn_seq ?_ | refine rn_plain ?_ | refine rn_block ?_ | refine rn_inBlock ?_ | refine rn_skip ?_ | refine rn_true rfl ?_ | refine rn_false rfl ?_ | refine rn_exit rfl ?_ | refine pl_not rfl rfl ?_))
  refine rn_ind (fun m σ w' => ∃ (j : Nat) (vs : List VarT) (vv : Value), m = ts.length + 1 - j ∧ σ = [(1, .pointer (some ⟨bx, 0, none⟩)), (2, .pointer (some ⟨b2, 0, none⟩))] ∧
    TOT = bnd (untilP (fun j => !isT ts j letT) (letP ts fin) (ts.length + 1 - j) j) (fun (r, k) => bnd (bodyP ts fin (vs ++ r) k) fun (b, _) => .ok (vs ++ r, b)) ∧ vs.length ≤ j ∧ Rd w0 lv ts fin b vv vs w' j ∧
    Blk w' bx [.pointer (some ⟨b, 0, none⟩)] 70 ∧ Blk w' b2 pz 38) _ _ ?_ ⟨0, [], .slice none 0 0, rfl, rfl, hT0, Nat.le_refl _, h2, hx2, hz2⟩ ?_
  · exact ⟨rfl, rfl, trivial⟩
  rintro m σ w3 ih ⟨j, vs, vv, rfl, rfl, hT3, hvj, h3, hx3, hz3⟩
  have hjl := h3.le
  (repeat (first | refine pl_pure hT rfl rfl rfl ?_ | refine pl_nil ?_ | refine rn_seq ?_ | refine rn_plain ?_ | refine rn_block ?_ | refine rn_inBlock ?_ | refine rn_skip ?_ | refine rn_true rfl ?_ | refine rn_false rfl ?_ | refine rn_exit rfl ?_ | refine pl_not rfl rfl ?_))
  refine pl_val _ rfl rfl (val_load1 hT rfl rfl rfl (hx3.cell rfl)) ?_
  refine pl_op rfl rfl (opTo_call (fst := []) (cap := []) rfl rfl rfl rfl (by decide +kernel) ((stands_ret hct h3 letT (by decide)).mono ?_))
  rintro r w4 ⟨rfl, rfl⟩
  have hu : untilP (fun j => !isT ts j letT) (letP ts fin) (ts.length + 1 - j) j = if (!isT ts j letT) = true then .ok ([], j) else bnd (letP ts fin j) fun (t, k) => bnd (untilP (fun j => !isT ts j letT) (letP ts fin) (ts.length - j) k) fun (r, k) => .ok (t :: r, k) := by
    have e : ts.length + 1 - j = (ts.length - j) + 1 := by omega
    rw [e]
    rfl
  obtain ⟨q, hq⟩ : ∃ q, q = isT ts j letT := ⟨_, rfl⟩
  rw [← hq] at hu ⊢
  cases q with
  | true =>
    rw [if_neg (by decide)] at hu
    have hT4 : TOT = bnd (letP ts fin j) fun q => bnd (untilP (fun j => !isT ts j letT) (letP ts fin) (ts.length + 1 - q.2) q.2) (fun (r, k) => bnd (bodyP ts fin ((vs ++ [q.1]) ++ r) k) fun (b, _) => .ok ((vs ++ [q.1]) ++ r, b)) := by
      rw [hT3, hu]
      cases hc : letP ts fin j with
      | error e => rfl
      | ok q =>
        obtain ⟨t, j'⟩ := q
        have h1 := letP_ok hc
        dsimp only at h1
        show bnd (bnd (untilP _ (letP ts fin) (ts.length - j) j') _) _ = bnd (untilP _ (letP ts fin) (ts.length + 1 - j') j') _
        rw [untilP_fuel letP_lt (ts.length - j) (ts.length + 1 - j') j' h1.2 (by omega) (by omega)]
        cases untilP (fun j => !isT ts j letT) (letP ts fin) (ts.length + 1 - j') j' with
        | error e => rfl
        | ok q =>
          obtain ⟨r', k'⟩ := q
          show bnd (bodyP ts fin (vs ++ t :: r') k') _ = bnd (bodyP ts fin (vs ++ [t] ++ r') k') _
          rw [show vs ++ t :: r' = vs ++ [t] ++ r' by simp]
    (repeat (first | refine pl_pure hT rfl rfl rfl ?_ | refine pl_nil ?_ | refine rn_seq ?_ | refine rn_plain ?_ | refine rn_block ?_ | refine rn_inBlock ?_ | refine rn_skip ?_ | refine rn_true rfl ?_ | refine rn_false rfl ?_ | refine rn_exit rfl ?_ | refine pl_not rfl rfl ?_))
    refine pl_val _ rfl rfl (val_load1 hT rfl rfl rfl (hx3.cell rfl)) ?_
    refine pl_opE Tryd.func31 rfl rfl (opE_call (fst := []) (cap := []) rfl rfl rfl rfl (by decide +kernel) (End.mono (let_end hct (by omega) h3 hq.symm) ?_ ?_))
    rotate_left
    · rintro x w5 ⟨e, hX, r⟩
      exact ⟨e, by rw [hT4, hX]; rfl, r⟩
    rintro r w5 ⟨⟨y, j'⟩, hX, ⟨vv', h5⟩, fp, hfp, hk5⟩
    have hlt := letP_ok hX
    dsimp only at hlt
    rw [hX] at hT4
    obtain ⟨a0, c0, hb0, _⟩ := h3.blk
    have hx5 := hk5.blk hx3 (fun hm => (hfp bx hm).elim (fun e => hx3.ne hb0 (by decide) e) fun e => own_ne h3.var hx3 (by decide) bx e rfl)
    have hz5 := hk5.blk hz3 (fun hm => (hfp b2 hm).elim (fun e => hz3.ne hb0 (by decide) e) fun e => own_ne h3.var hz3 (by decide) b2 e rfl)
    (repeat (first | refine pl_pure hT rfl rfl rfl ?_ | refine pl_nil ?_ | refine rn_seq ?_ | refine rn_plain ?_ | refine rn_block ?_ | refine rn_inBlock ?_ | refine rn_skip ?_ | refine rn_true rfl ?_ | refine rn_false rfl ?_ | refine rn_exit rfl ?_ | refine pl_not rfl rfl ?_))
    refine rn_sub ?_ (ih _ _ _ ?_ ⟨j', vs ++ [y], vv', rfl, rfl, hT4, by simp; omega, h5, hx5, hz5⟩)
    · exact ⟨rfl, rfl, trivial⟩
    · omega
  | false =>
    rw [if_pos (by decide)] at hu
    have hT4 : TOT = bnd (bodyP ts fin vs j) fun (b, _) => .ok (vs, b) := by
      rw [hT3, hu]
      show bnd (bodyP ts fin (vs ++ []) j) _ = _
      rw [List.append_nil]
    unfold bodyP at hT4
    (repeat (first | refine pl_pure hT rfl rfl rfl ?_ | refine pl_nil ?_ | refine rn_seq ?_ | refine rn_plain ?_ | refine rn_block ?_ | refine rn_inBlock ?_ | refine rn_skip ?_ | refine rn_true rfl ?_ | refine rn_false rfl ?_ | refine rn_exit rfl ?_ | refine pl_not rfl rfl ?_))
    refine pl_val _ rfl rfl (val_load1 hT rfl rfl rfl (hx3.cell rfl)) ?_
    (repeat (first | refine pl_pure hT rfl rfl rfl ?_ | refine pl_nil ?_ | refine rn_seq ?_ | refine rn_plain ?_ | refine rn_block ?_ | refine rn_inBlock ?_ | refine rn_skip ?_ | refine rn_true rfl ?_ | refine rn_false rfl ?_ | refine rn_exit rfl ?_ | refine pl_not rfl rfl ?_))
    refine pl_opE Tryd.func31 rfl rfl (opE_call (fst := []) (cap := []) rfl rfl rfl rfl (by decide +kernel) (End.mono (stmts_end (deep := 0) (stop := fun j => decide (ts.length ≤ j)) (one := stmtP ts fin vs 13) (g := 43) (bx := bx) hct (by decide +kernel) (stmtP_ok vs 13) (fun i w h => stmt_end hct hw0 (by omega) 13 0 i rfl h) (fun i w h hx => atEnd_ret h hx) h3 hx3) ?_ ?_))
    rotate_left
    · rintro x w5 ⟨e, hX, r⟩
      exact ⟨e, by rw [hT4, hX]; rfl, r⟩
    rintro r w5 ⟨⟨body, j'⟩, hX, ⟨⟨a, n, c, rfl, hnc⟩, F, hF1, hF2⟩, h5, hk5⟩
    rw [hX] at hT4
    have hT5 : TOT = .ok (vs, body) := hT4
    obtain ⟨a0, c0, hb0, _⟩ := h3.blk
    have hx5 := hk5.blk hx3 (by simp; exact fun e => hx3.ne hb0 (by decide) e)
    have hz5 := hk5.blk hz3 (by simp; exact fun e => hz3.ne hb0 (by decide) e)
    obtain ⟨a5, c5, hb5, _⟩ := h5.blk
    obtain ⟨av, cv, rfl⟩ := h5.var.form
    (repeat (first | refine pl_pure hT rfl rfl rfl ?_ | refine pl_nil ?_ | refine rn_seq ?_ | refine rn_plain ?_ | refine rn_block ?_ | refine rn_inBlock ?_ | refine rn_skip ?_ | refine rn_true rfl ?_ | refine rn_false rfl ?_ | refine rn_exit rfl ?_ | refine pl_not rfl rfl ?_))
    refine pl_val _ rfl rfl (val_load1 hT rfl rfl rfl (hx5.cell rfl)) ?_
    (repeat (first | refine pl_pure hT rfl rfl rfl ?_ | refine pl_nil ?_ | refine rn_seq ?_ | refine rn_plain ?_ | refine rn_block ?_ | refine rn_inBlock ?_ | refine rn_skip ?_ | refine rn_true rfl ?_ | refine rn_false rfl ?_ | refine rn_exit rfl ?_ | refine pl_not rfl rfl ?_))
    refine pl_val _ rfl rfl (val_load1 hT rfl rfl rfl (hb5.cell rfl)) ?_
    (repeat (first | refine pl_pure hT rfl rfl rfl ?_ | refine pl_nil ?_ | refine rn_seq ?_ | refine rn_plain ?_ | refine rn_block ?_ | refine rn_inBlock ?_ | refine rn_skip ?_ | refine rn_true rfl ?_ | refine rn_false rfl ?_ | refine rn_exit rfl ?_ | refine pl_not rfl rfl ?_))
    refine pl_val _ rfl rfl (val_build _ rfl rfl (built_pr av a vs.length cv n c) w5) ?_
    refine pl_op rfl rfl (opTo_storeN [.slice av vs.length cv, .slice a n c] rfl rfl rfl rfl size_pr hz5 (by simp [pz]) (one_pr _ _ _ _ _ _) ?_)
    intro w6 hs6 hk6 hz6
    rw [splice_whole (by rfl)] at hz6
    (repeat (first | refine pl_pure hT rfl rfl rfl ?_ | refine pl_nil ?_ | refine rn_seq ?_ | refine rn_plain ?_ | refine rn_block ?_ | refine rn_inBlock ?_ | refine rn_skip ?_ | refine rn_true rfl ?_ | refine rn_false rfl ?_ | refine rn_exit rfl ?_ | refine pl_not rfl rfl ?_))
    have hb2w : w0.heap.size ≤ b2 := by have := hk1.size; omega
    have h6 := h5.put hz5 hb2w hk6 (by decide)
    have s3 : b2 < w4.heap.size := hz3.lt
    have hF6 : StmtsV F w6 (.slice a n c) body := hF1.keep hk6 (fun k hk => ⟨(hF2 k hk).2, by simp; have := (hF2 k hk).1; omega⟩)
    have hv6 := vars_own h6.var
    refine rn_ret Tryd.func31 (.inr (.inr (.inl ⟨_, _, _, rfl, rfl, blk_loadVar hT hz6 rfl⟩))) ⟨(vs, body), hT5, ⟨⟨_, a, n, c, rfl, hnc⟩, fun k => (Value.slice av vs.length cv).ownBlock = some k ∨ F k, ⟨_, _, rfl, hv6.mono fun k hk => .inl hk, hF6.mono fun k hk => .inr hk⟩, ?_⟩, h6.kp⟩
    rintro k (hk | hk)
    · exact h6.var.lt k hk
    · have := hF2 k hk
      have := h3.kp.size
      have := hk6.size
      omega
end

/-! ### Caught -/
section
variable {P : Program} {n : Nat} {σ : Env} {o : Oper}
theorem val_assert {t xt : TypeId} {x : Operand} {u : Value} (hs : isStruct P t = true) (ho : o.op = .typeAssert x xt t false) (hx : ev σ x = some (.iface t u)) (w : World) : Val P n σ o w u := by
  intro a ha
  unfold isStruct at hs
  split at hs
  · rename_i fs hu
    simp [execOp, ho, ha.eval hx, Instr.typeAssert, run_underlying hu]
  · cases hs
end
theorem CallsD.mono' {P : Program} {f : FuncId} {args : Array Value} {u : FrameMode} {w : World} {R R' : Ending → FrameMode → World → Prop} (h : CallsD P f args u w R) (hr : ∀ e u' w', R e u' w' → R' e u' w') : CallsD P f args u w R' := fun c cs hc => by
  obtain ⟨e, u', w', fr, h1, h2⟩ := h c cs hc
  exact ⟨e, u', w', fr, hr e u' w' h1, h2⟩

theorem caught {w : World} {b5 : Nat} (hb : Blk w b5 [.int .i64 0, .int .i64 0] 25) (e : Flt) :
    CallsD Tryd.prog 30 [Value.pointer (some ⟨b5, 0, none⟩)].toArray (.panicking (pan (gvV e))) w fun en u' w' => en = .returned (.tuple #[]) ∧ u' = .panicking [{ v := gvV e, recovered := true }] ∧ Blk w' b5 [.int .i64 e.1, .int .i64 e.2] 25 ∧ Keep [b5] w w' := by
  refine callsD_of 8 Tryd.func30 rfl rfl (by simp) ?_
  refine rnD_seq ?_
  refine rnD_recover (gvV e) rfl rfl rfl (fun a ha => rfl) ?_
  (repeat (first | refine pl_pure hT rfl rfl rfl ?_ | refine pl_nil ?_ | refine rn_seq ?_ | refine rn_plain ?_ | refine rn_block ?_ | refine rn_inBlock ?_ | refine rn_skip ?_ | refine rn_true rfl ?_ | refine rn_false rfl ?_ | refine rn_exit rfl ?_ | refine pl_not rfl rfl ?_))
  refine pl_val _ rfl rfl (val_errSome _ _ (by decide +kernel) rfl rfl w) ?_
  (repeat (first | refine pl_pure hT rfl rfl rfl ?_ | refine pl_nil ?_ | refine rn_seq ?_ | refine rn_plain ?_ | refine rn_block ?_ | refine rn_inBlock ?_ | refine rn_skip ?_ | refine rn_true rfl ?_ | refine rn_false rfl ?_ | refine rn_exit rfl ?_ | refine pl_not rfl rfl ?_))
  refine pl_val _ rfl rfl (val_assert (by decide +kernel) rfl rfl w) ?_
  refine pl_val _ rfl rfl (val_fieldAgg 0 [.int .i64 e.1, .int .i64 e.2] [.int .i64 e.1, .int .i64 e.2] rfl rfl (m := 2) (by decide +kernel) rfl w) ?_
  refine pl_op rfl rfl (opTo_storeN [.int .i64 e.1, .int .i64 e.2] rfl rfl rfl rfl size_fault hb (by simp) (one_fault _ _) ?_)
  intro w1 hs1 hk1 hb1
  rw [splice_whole (by rfl)] at hb1
  (repeat (first | refine pl_pure hT rfl rfl rfl ?_ | refine pl_nil ?_ | refine rn_seq ?_ | refine rn_plain ?_ | refine rn_block ?_ | refine rn_inBlock ?_ | refine rn_skip ?_ | refine rn_true rfl ?_ | refine rn_false rfl ?_ | refine rn_exit rfl ?_ | refine pl_not rfl rfl ?_))
  exact rn_endX Tryd.func30 rfl (.inr (.inl ⟨rfl, rfl⟩)) ⟨rfl, rfl, hb1, hk1⟩
theorem uncaught (w : World) (b5 : Nat) :
    CallsD Tryd.prog 30 [Value.pointer (some ⟨b5, 0, none⟩)].toArray .returning w fun en u' w' => en = .returned (.tuple #[]) ∧ u' = .returning ∧ w' = w := by
  refine callsD_of 8 Tryd.func30 rfl rfl (by simp) ?_
  refine rnD_seq ?_
  refine rnD_norec rfl rfl rfl (fun a ha => rfl) ?_
  (repeat (first | refine pl_pure hT rfl rfl rfl ?_ | refine pl_nil ?_ | refine rn_seq ?_ | refine rn_plain ?_ | refine rn_block ?_ | refine rn_inBlock ?_ | refine rn_skip ?_ | refine rn_true rfl ?_ | refine rn_false rfl ?_ | refine rn_exit rfl ?_ | refine pl_not rfl rfl ?_))
  refine pl_val _ rfl rfl (val_errNil (by decide +kernel) rfl rfl w) ?_
  (repeat (first | refine pl_pure hT rfl rfl rfl ?_ | refine pl_nil ?_ | refine rn_seq ?_ | refine rn_plain ?_ | refine rn_block ?_ | refine rn_inBlock ?_ | refine rn_skip ?_ | refine rn_true rfl ?_ | refine rn_false rfl ?_ | refine rn_exit rfl ?_ | refine pl_not rfl rfl ?_))
  exact rn_endX Tryd.func30 rfl (.inr (.inl ⟨rfl, rfl⟩)) ⟨rfl, rfl, rfl⟩
end E
end Go.Proofs.YthbkcadiejfgaacDoor
