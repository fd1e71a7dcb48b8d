/- The list of steps that a law of a store is handed, as it lies in memory; greatStore. -/
import Derived.Test.YtcnjmjdnlhiflabStoO
namespace Go.Proofs.Ytcnjmjdnlhiflab
set_option maxRecDepth 20000
namespace E
open Go.Proofs

/-- A step: what to do, by how many deeds, pages, a mask. -/
structure SStep where
  d : Int
  k : Int
  pv : Value
  ps : List Pg
  m : Int

def tcell (s : SStep) : List Value := [.int .i64 s.d, .int .i64 s.k, s.pv, .int .u64 s.m]
def tcells (st : List SStep) : List Value := st.flatMap tcell
theorem tcell_length (s : SStep) : (tcell s).length = 4 := rfl

structure ArgT (B : Nat) (w : World) (lv : Value) (st : List SStep) : Prop where
  ex : ∃ a cap, lv = .slice a st.length cap ∧ (st ≠ [] → ∃ b q, a = some ⟨b, q, none⟩ ∧ b < B ∧ w.rangeAt b q (tcells st))
  pgs : ∀ s ∈ st, Pgs B w s.pv s.ps
  le : B ≤ w.heap.size

theorem ArgT.keep {B : Nat} {w w' : World} {lv : Value} {st : List SStep} {fp : List Nat} (h : ArgT B w lv st) (hk : Keep fp w w') (hn : ∀ k ∈ fp, B ≤ k) : ArgT B w' lv st := by
  obtain ⟨a, cap, hv, hm⟩ := h.ex
  refine ⟨⟨a, cap, hv, fun hne => ?_⟩, fun s hs => (h.pgs s hs).keep hk hn, Nat.le_trans h.le hk.size⟩
  obtain ⟨b, q, ha, hlt, hr⟩ := hm hne
  exact ⟨b, q, ha, hlt, hk.range hr (Nat.lt_of_lt_of_le hlt h.le) fun hm => by have := hn b hm; omega⟩
theorem ArgT.at {B : Nat} {w : World} {lv : Value} {st : List SStep} (h : ArgT B w lv st) {j : Nat} {s : SStep} (hs : st[j]? = some s) :
    ∃ b q cap, lv = .slice (some ⟨b, q, none⟩) st.length cap ∧ b < B ∧ w.rangeAt b (q + j * 4) (tcell s) := by
  obtain ⟨a, cap, hv, hm⟩ := h.ex
  obtain ⟨b, q, ha, hlt, hr⟩ := hm (by intro e; simp [e] at hs)
  refine ⟨b, q, cap, by rw [hv, ha], hlt, range_sub hr (j * 4) ?_⟩
  rw [tcell_length]
  exact flat_at (fun q _ => tcell_length q) hs
theorem ArgT.form {B : Nat} {w : World} {lv : Value} {st : List SStep} (h : ArgT B w lv st) : ∃ a cap, lv = .slice a st.length cap := by
  obtain ⟨a, cap, hv, _⟩ := h.ex
  exact ⟨a, cap, hv⟩
theorem Pgs.form {B : Nat} {w : World} {v : Value} {ps : List Pg} (h : Pgs B w v ps) : ∃ a cap, v = .slice a ps.length cap := by
  obtain ⟨a, cap, hv, _⟩ := h.ex
  exact ⟨a, cap, hv⟩

def Small (st : List SStep) : Prop := st.length ≤ 60 ∧ ∀ s ∈ st, s.ps.length ≤ 30

theorem great_ret {B : Nat} {w : World} {lv : Value} {st : List SStep} (h : ArgT B w lv st) :
    Ret Try.prog 8 [lv] w fun v w' => w' = w ∧ ∃ b, v = .bool b ∧ (b = false → Small st) := by
  refine ret_of 24 Try.func8 rfl rfl (by simp) ?_
  obtain ⟨la, lcap, hlv⟩ := h.form
  repeat (first | refine pl_pure hT rfl rfl rfl ?_ | refine pl_nil ?_ | refine rn_seq ?_ | refine rn_plain ?_ | refine rn_block ?_ | refine rn_inBlock ?_ | refine rn_skip ?_ | refine rn_true rfl ?_ | refine rn_false rfl ?_ | refine rn_exit rfl ?_ | refine pl_not rfl rfl ?_)
  refine rn_ind (fun q σ w' => ∃ j, q = 100 - j ∧ j ≤ 100 ∧ j ≤ st.length ∧ σ = [(0, lv), (3, .int .i64 (j : Nat))] ∧ w' = w ∧ ∀ s ∈ st.take j, s.ps.length ≤ 30)
    (100 - 0) _ ?_ ⟨0, rfl, by decide, Nat.zero_le _, rfl, rfl, by simp⟩ ?_
  · exact ⟨rfl, rfl, trivial⟩
  rintro q σ w2 ih ⟨j, hq, hj, hjl, rfl, rfl, hno⟩
  refine rn_seq ?_
  refine rn_seq ?_
  refine rn_with (fun σ w' => w' = w2 ∧ σ = [(0, lv), (3, .int .i64 (j : Nat)), (11, .bool (decide (j < st.length ∧ j < 100)))]) ?_ ?_
  · rintro σ w3 ⟨rfl, rfl⟩
    by_cases hin : j < st.length ∧ j < 100
    · rw [decide_eq_true hin]
      repeat (first | refine pl_pure hT rfl rfl rfl ?_ | refine pl_nil ?_ | refine rn_seq ?_ | refine rn_plain ?_ | refine rn_block ?_ | refine rn_inBlock ?_ | refine rn_skip ?_ | refine rn_true rfl ?_ | refine rn_false rfl ?_ | refine rn_exit rfl ?_ | refine pl_not rfl rfl ?_)
      obtain ⟨s, hs⟩ : ∃ s, st[j]? = some s := ⟨_, List.getElem?_eq_getElem hin.1⟩
      obtain ⟨b, q, cap, hlv', _, hr⟩ := h.at hs
      obtain ⟨pa, pcap, hpv⟩ := (h.pgs s (List.mem_of_getElem? hs)).form
      refine pl_val _ rfl rfl (val_index j hT rfl (by rw [hlv']; rfl) rfl rfl rfl hin.1 w3) ?_
      repeat (first | refine pl_pure hT rfl rfl rfl ?_ | refine pl_nil ?_ | refine rn_seq ?_ | refine rn_plain ?_ | refine rn_block ?_ | refine rn_inBlock ?_ | refine rn_skip ?_ | refine rn_true rfl ?_ | refine rn_false rfl ?_ | refine rn_exit rfl ?_ | refine pl_not rfl rfl ?_)
      refine pl_val s.pv rfl rfl (val_load1 hT rfl rfl rfl (hr 2 _ rfl)) ?_
      refine pl_val (.int .i64 s.ps.length) rfl rfl (val_pure hT (by rw [hpv]; rfl) w3) ?_
      by_cases hbig : s.ps.length > 30
      · refine pl_val (.bool true) rfl rfl (val_int .i64 _ 30 _ rfl rfl rfl (by simp [intOp]; omega) w3) ?_
        repeat (first | refine pl_pure hT rfl rfl rfl ?_ | refine pl_nil ?_ | refine rn_seq ?_ | refine rn_plain ?_ | refine rn_block ?_ | refine rn_inBlock ?_ | refine rn_skip ?_ | refine rn_true rfl ?_ | refine rn_false rfl ?_ | refine rn_exit rfl ?_ | refine pl_not rfl rfl ?_)
        exact rn_ret Try.func8 (.inl ⟨_, rfl, rfl⟩) ⟨rfl, true, rfl, fun h => by cases h⟩
      · refine pl_val (.bool false) rfl rfl (val_int .i64 _ 30 _ rfl rfl rfl (by simp [intOp]; omega) w3) ?_
        repeat (first | refine pl_pure hT rfl rfl rfl ?_ | refine pl_nil ?_ | refine rn_seq ?_ | refine rn_plain ?_ | refine rn_block ?_ | refine rn_inBlock ?_ | refine rn_skip ?_ | refine rn_true rfl ?_ | refine rn_false rfl ?_ | refine rn_exit rfl ?_ | refine pl_not rfl rfl ?_)
        refine pl_val (.int .i64 ((j + 1 : Nat) : Int)) rfl rfl (val_int .i64 j 1 _ rfl rfl rfl (by simp only [intOp]; rw [wrap_i64 (by omega) (by omega)]; rfl) w3) ?_
        repeat (first | refine pl_pure hT rfl rfl rfl ?_ | refine pl_nil ?_ | refine rn_seq ?_ | refine rn_plain ?_ | refine rn_block ?_ | refine rn_inBlock ?_ | refine rn_skip ?_ | refine rn_true rfl ?_ | refine rn_false rfl ?_ | refine rn_exit rfl ?_ | refine pl_not rfl rfl ?_)
        refine rn_sub ?_ (ih (100 - (j + 1)) _ w3 (by omega) ⟨j + 1, rfl, by omega, by omega, rfl, rfl, fun x hx => ?_⟩)
        · exact ⟨rfl, rfl, trivial⟩
        · rw [List.take_succ_eq_append_getElem hin.1, (List.getElem?_eq_some_iff.1 hs).2] at hx
          rcases List.mem_append.1 hx with hx | hx
          · exact hno x hx
          · simp at hx
            subst hx
            omega
    · rw [decide_eq_false hin]
      repeat (first | refine pl_pure hT rfl rfl rfl ?_ | refine pl_nil ?_ | refine rn_seq ?_ | refine rn_plain ?_ | refine rn_block ?_ | refine rn_inBlock ?_ | refine rn_skip ?_ | refine rn_true rfl ?_ | refine rn_false rfl ?_ | refine rn_exit rfl ?_ | refine pl_not rfl rfl ?_)
      refine pl_val (.int .i64 st.length) rfl rfl (val_pure hT (by rw [hlv]; rfl) w3) ?_
      refine pl_val (.bool (decide (st.length > 60))) rfl rfl (val_int .i64 _ 60 _ rfl rfl rfl (by simp [intOp]; omega) w3) ?_
      repeat (first | refine pl_pure hT rfl rfl rfl ?_ | refine pl_nil ?_ | refine rn_seq ?_ | refine rn_plain ?_ | refine rn_block ?_ | refine rn_inBlock ?_ | refine rn_skip ?_ | refine rn_true rfl ?_ | refine rn_false rfl ?_ | refine rn_exit rfl ?_ | refine pl_not rfl rfl ?_)
      refine rn_ret Try.func8 (.inl ⟨_, rfl, rfl⟩) ⟨rfl, _, rfl, fun hb => ?_⟩
      have h60 : st.length ≤ 60 := by simpa using hb
      refine ⟨h60, ?_⟩
      have : j = st.length := by omega
      rw [this, List.take_length] at hno
      exact hno
  intro hjoin
  refine rn_plain ?_
  refine pl_pure hT rfl rfl rfl ?_
  refine pl_pure hT rfl rfl rfl ?_
  refine pl_val (.int .i64 st.length) rfl rfl (val_pure hT (by rw [hlv]; rfl) w2) ?_
  rcases Nat.lt_or_ge j st.length with hlt | hge
  · refine pl_val (.bool true) rfl rfl (val_int .i64 _ _ _ rfl rfl rfl (by simp [intOp]; omega) w2) ?_
    repeat (first | refine pl_pure hT rfl rfl rfl ?_)
    refine pl_val (.bool (decide (j < 100))) rfl rfl (val_int .i64 _ 100 _ rfl rfl rfl (by simp [intOp]; omega) w2) ?_
    repeat (first | refine pl_pure hT rfl rfl rfl ?_ | refine pl_nil ?_)
    refine rn_sub ?_ (hjoin _ w2 ⟨rfl, rfl⟩)
    rw [show decide (j < st.length ∧ j < 100) = decide (j < 100) by simp [hlt]]
    exact ⟨rfl, rfl, rfl, trivial⟩
  · refine pl_val (.bool false) rfl rfl (val_int .i64 _ _ _ rfl rfl rfl (by simp [intOp]; omega) w2) ?_
    repeat (first | refine pl_pure hT rfl rfl rfl ?_ | refine pl_nil ?_ | refine pl_not rfl rfl ?_)
    refine rn_sub ?_ (hjoin _ w2 ⟨rfl, rfl⟩)
    rw [decide_eq_false (by omega)]
    exact ⟨rfl, rfl, rfl, trivial⟩

theorem not_fp {B : Nat} {w : World} {d : Nat} {S : List Int} {L : List Wr} {wv : Value} (h : DiskV B w d S L wv) {b : Nat} {M : List Value} {e : TypeId} (hb : Blk w b M e) (he : (e == 73 || e == 104) = false) : b ∉ fpD d wv := fun hm => by
  rcases fpD_typ h b hm _ _ hb with h1 | h1 <;> simp [h1] at he

theorem lookI_take {ps : List Pg} {k : Nat} {p : Pg} (h : ps[k]? = some p) (i : Int) (x : List Int) : (lookI (ps.take (k + 1)) i).getD x = if p.1 = i then p.2 else (lookI (ps.take k) i).getD x := by
  have hlt : k < ps.length := (List.getElem?_eq_some_iff.1 h).1
  rw [List.take_succ_eq_append_getElem hlt, (List.getElem?_eq_some_iff.1 h).2, lookI_snoc]
  split <;> rfl

theorem look_len {ps : List Pg} (hwf : ∀ p ∈ ps, p.2.length = 8) (i : Int) {x : List Int} (hx : x.length = 8) : ((lookI ps i).getD x).length = 8 := by
  unfold lookI
  cases h : (ps.filter fun p => p.1 == i).getLast? with
  | none => exact hx
  | some p => exact hwf p (List.mem_filter.1 (List.mem_of_getLast? h)).1

end E
end Go.Proofs.Ytcnjmjdnlhiflab
