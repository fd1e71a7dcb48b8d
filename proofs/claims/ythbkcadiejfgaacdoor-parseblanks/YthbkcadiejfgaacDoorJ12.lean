/- Several texts in one: PgD, PgE. -/
import Derived.Test.YthbkcadiejfgaacDoorJ11
import Derived.Test.YthbkcadiejfgaacDoorJ09
/- The landed reader: the beginning of a statement or an expression; a variable. -/
namespace Go.Proofs.YthbkcadiejfgaacDoor
set_option maxRecDepth 20000
set_option maxHeartbeats 4000000
namespace E
open Go.Proofs

section
variable {w0 w w' : World} {lv vv : Value} {ts : List Tok} {fin b i : Nat} {vs : List VarT}
theorem beginTok_ret {g most : Nat} {of : Nat → List UInt8} (hg : Wr g of most) (t : Tok) (hw : Lw w) {b1 b2 : Nat} (h1 : Blk w b1 [.func (.func g) #[] #[]] 53) (h2 : Blk w b2 [.int .i64 0] 3) :
    Ret Tryd.prog 89 [.agg (tokL t).toArray, .pointer (some ⟨b1, 0, none⟩), .pointer (some ⟨b2, 0, none⟩)] w fun r w' => r = .bool (decide (0 < kindL of t.text 1 most)) ∧ Keep [b2] w w' ∧ Blk w' b2 [.int .i64 (kindL of t.text 1 most : Nat)] 3 := by
  refine ret_of 11 Tryd.func89 rfl rfl (by simp) ?_
  (repeat (first | refine pl_pure hT rfl rfl rfl ?_ | refine pl_nil ?_ | refine rn_seq ?_ | refine rn_plain ?_ | refine rn_block ?_ | refine rn_inBlock ?_ | refine rn_skip ?_ | refine rn_true rfl ?_ | refine rn_false rfl ?_ | refine rn_exit rfl ?_ | refine pl_not rfl rfl ?_))
  refine pl_op rfl rfl (opTo_boxN (tokL t) rfl rfl rfl ?_)
  intro w1 b3 hb30 hs1 hk1 hz1
  (repeat (first | refine pl_pure hT rfl rfl rfl ?_ | refine pl_nil ?_ | refine rn_seq ?_ | refine rn_plain ?_ | refine rn_block ?_ | refine rn_inBlock ?_ | refine rn_skip ?_ | refine rn_true rfl ?_ | refine rn_false rfl ?_ | refine rn_exit rfl ?_ | refine pl_not rfl rfl ?_))
  refine pl_val _ rfl rfl (val_load1 hT rfl rfl rfl (hz1.cell rfl)) ?_
  refine pl_val _ rfl rfl (val_load1 hT rfl rfl rfl ((hk1.blk h1 (by simp)).cell rfl)) ?_
  refine pl_op rfl rfl (opTo_call (fst := []) (cap := []) rfl rfl rfl rfl (by decide +kernel) ((kind_ret hg t.text (hw.keep hk1)).mono ?_))
  rintro r w2 ⟨rfl, rfl⟩
  obtain ⟨kk, hkk⟩ : ∃ kk, kk = kindL of t.text 1 most := ⟨_, rfl⟩
  rw [← hkk]
  refine pl_op rfl rfl (opTo_storeN [.int .i64 ((kk : Nat) : Int)] rfl rfl rfl rfl size_int (hk1.blk h2 (by simp)) (by simp) (by simp; rfl) ?_)
  intro w3 hs3 hk3 hz3
  rw [splice_whole (by rfl)] at hz3
  have hk03 : Keep [b2] w w3 := (Keep.of0 hk1).tr hk3
  (repeat (first | refine pl_pure hT rfl rfl rfl ?_ | refine pl_nil ?_ | refine rn_seq ?_ | refine rn_plain ?_ | refine rn_block ?_ | refine rn_inBlock ?_ | refine rn_skip ?_ | refine rn_true rfl ?_ | refine rn_false rfl ?_ | refine rn_exit rfl ?_ | refine pl_not rfl rfl ?_))
  refine pl_val _ rfl rfl (val_load1 hT rfl rfl rfl (hz3.cell rfl)) ?_
  by_cases h0 : 0 < kk
  · refine pl_yes rfl rfl rfl rfl rfl (by first | (simp only [cmpP]; omega) | (simp [cmpP]; done) | (simp [cmpP]; omega)) ?_
    (repeat (first | refine pl_pure hT rfl rfl rfl ?_ | refine pl_nil ?_ | refine rn_seq ?_ | refine rn_plain ?_ | refine rn_block ?_ | refine rn_inBlock ?_ | refine rn_skip ?_ | refine rn_true rfl ?_ | refine rn_false rfl ?_ | refine rn_exit rfl ?_ | refine pl_not rfl rfl ?_))
    exact rn_ret Tryd.func89 (.inl ⟨_, rfl, rfl⟩) ⟨by simp [h0], hk03, hz3⟩
  · refine pl_no rfl rfl rfl rfl rfl rfl (by first | (simp only [cmpP]; omega) | (simp [cmpP]; done) | (simp [cmpP]; omega)) ?_
    (repeat (first | refine pl_pure hT rfl rfl rfl ?_ | refine pl_nil ?_ | refine rn_seq ?_ | refine rn_plain ?_ | refine rn_block ?_ | refine rn_inBlock ?_ | refine rn_skip ?_ | refine rn_true rfl ?_ | refine rn_false rfl ?_ | refine rn_exit rfl ?_ | refine pl_not rfl rfl ?_))
    exact rn_ret Tryd.func89 (.inl ⟨_, rfl, rfl⟩) ⟨by simp [h0], hk03, hz3⟩

theorem begin_take (hct : Ct ts) {g most : Nat} {of : Nat → List UInt8} (hg : Wr g of most) : beginP ts fin of most i = bnd (mustP ts fin [40] i) fun j => bnd (takeP ts fin (fun t => decide (0 < kindL of t.text 1 most)) j) fun q => .ok (kindL of q.1.text 1 most, q.2) := by
  unfold beginP
  congr 1
  funext j
  unfold takeP
  rcases get_cases ts j with ht | ⟨t, ht⟩
  · rw [ht, pickK_none ht]
    rfl
  · rw [ht, pickK_kind hct.fine ht hg.head most 1 (by omega) (by omega)]
    by_cases h0 : kindL of t.text 1 most = 0
    · rw [if_pos h0]
      simp [h0, bnd]
    · rw [if_neg h0]
      have : 0 < kindL of t.text 1 most := by omega
      simp [this, bnd]

theorem begin_end (hct : Ct ts) (hw0 : Lw w0) (h : Rd w0 lv ts fin b vv vs w i) {g most : Nat} {of : Nat → List UInt8} (hg : Wr g of most) (deep : Nat) :
    Goes 81 [.pointer (some ⟨b, 0, none⟩), .int .i64 (deep : Nat), .func (.func g) #[] #[]] w0 w (bnd (if 12 < deep then .error (wrongAt ts fin 4 i) else .ok i) (beginP ts fin of most))
      fun q r w' => r = .int .i64 (q.1 : Nat) ∧ Rd w0 lv ts fin b vv vs w' q.2 ∧ Keep [b] w w' := by
  refine end_of 19 Tryd.func81 rfl rfl (by simp) ?_
  (repeat (first | refine pl_pure hT rfl rfl rfl ?_ | refine pl_nil ?_ | refine rn_seq ?_ | refine rn_plain ?_ | refine rn_block ?_ | refine rn_inBlock ?_ | refine rn_skip ?_ | refine rn_true rfl ?_ | refine rn_false rfl ?_ | refine rn_exit rfl ?_ | refine pl_not rfl rfl ?_))
  refine pl_op rfl rfl (opTo_boxN [.func (.func g) #[] #[]] rfl rfl rfl ?_)
  intro w1 b5 hb50 hs1 hk1 hz1
  have h1 := h.keep0 hk1
  have hblt := h.lt
  (repeat (first | refine pl_pure hT rfl rfl rfl ?_ | refine pl_nil ?_ | refine rn_seq ?_ | refine rn_plain ?_ | refine rn_block ?_ | refine rn_inBlock ?_ | refine rn_skip ?_ | refine rn_true rfl ?_ | refine rn_false rfl ?_ | refine rn_exit rfl ?_ | refine pl_not rfl rfl ?_))
  by_cases hd : 12 < deep
  · rw [if_pos hd]
    refine pl_yes rfl rfl rfl rfl rfl (by first | (simp only [cmpP]; omega) | (simp [cmpP]; done) | (simp [cmpP]; omega)) ?_
    (repeat (first | refine pl_pure hT rfl rfl rfl ?_ | refine pl_nil ?_ | refine rn_seq ?_ | refine rn_plain ?_ | refine rn_block ?_ | refine rn_inBlock ?_ | refine rn_skip ?_ | refine rn_true rfl ?_ | refine rn_false rfl ?_ | refine rn_exit rfl ?_ | refine pl_not rfl rfl ?_))
    refine pl_op rfl rfl (opTo_call (fst := []) (cap := []) rfl rfl rfl rfl (by decide +kernel) ((at_ret h1).mono ?_))
    rintro r w2 ⟨rfl, rfl⟩
    refine pl_opE Tryd.func81 rfl rfl (opE_call (fst := []) (cap := []) rfl rfl rfl rfl (by decide +kernel) ((giveUp_end 4 _ _).mono ?_ ?_))
    · intro v w' hf
      exact hf.elim
    · rintro v w' ⟨rfl, rfl⟩
      refine ⟨wrongAt ts fin 4 i, rfl, ?_, h1.kp⟩
      have : (wrongAt ts fin 4 i).1 = 4 := by
        unfold wrongAt
        split <;> rfl
      unfold gvV
      rw [this]
  · rw [if_neg hd]
    refine pl_no rfl rfl rfl rfl rfl rfl (by first | (simp only [cmpP]; omega) | (simp [cmpP]; done) | (simp [cmpP]; omega)) ?_
    (repeat (first | refine pl_pure hT rfl rfl rfl ?_ | refine pl_nil ?_ | refine rn_seq ?_ | refine rn_plain ?_ | refine rn_block ?_ | refine rn_inBlock ?_ | refine rn_skip ?_ | refine rn_true rfl ?_ | refine rn_false rfl ?_ | refine rn_exit rfl ?_ | refine pl_not rfl rfl ?_))
    obtain ⟨TOT, hTOT⟩ : ∃ TOT, TOT = bnd (.ok i) (beginP ts fin of most) := ⟨_, rfl⟩
    rw [← hTOT]
    have hT1 : TOT = bnd (mustP ts fin [40] i) fun j => bnd (takeP ts fin (fun t => decide (0 < kindL of t.text 1 most)) j) fun q => .ok (kindL of q.1.text 1 most, q.2) := by
      rw [hTOT]
      exact begin_take hct hg
    refine pl_opE Tryd.func81 rfl rfl (opE_call (fst := []) (cap := []) rfl rfl rfl rfl (by decide +kernel) (End.mono (text_end hct h1 [40] (by decide)) ?_ ?_))
    rotate_left
    · rintro v w2 ⟨e, hX, r⟩
      exact ⟨e, by rw [hT1, hX]; rfl, r⟩
    rintro r w2 ⟨j, hX, h2, hk2⟩
    rw [hX] at hT1
    have hT2 : TOT = bnd (takeP ts fin (fun t => decide (0 < kindL of t.text 1 most)) j) fun q => .ok (kindL of q.1.text 1 most, q.2) := hT1
    have hz2 := hk2.blk hz1 (by simp; omega)
    (repeat (first | refine pl_pure hT rfl rfl rfl ?_ | refine pl_nil ?_ | refine rn_seq ?_ | refine rn_plain ?_ | refine rn_block ?_ | refine rn_inBlock ?_ | refine rn_skip ?_ | refine rn_true rfl ?_ | refine rn_false rfl ?_ | refine rn_exit rfl ?_ | refine pl_not rfl rfl ?_))
    refine pl_op rfl rfl (opTo_allocN _ rfl zero_int ?_)
    intro w3 b7 hb70 hs3 hk3 hz3
    refine pl_op rfl rfl (opTo_storeN [.int .i64 0] rfl rfl rfl rfl size_int hz3 (by simp) (by simp; rfl) ?_)
    intro w4 hs4 hk4 hz4
    rw [splice_whole (by rfl)] at hz4
    have hk24 : Keep [] w2 w4 := hk3.trB hk4 (by omega)
    have h4 := h2.keep0 hk24
    have hf4 := hk24.blk hz2 (by simp)
    have hk04 : Keep [b] w w4 := ((Keep.of0 hk1).tr hk2).tr0 hk24
    have hb7 : w.heap.size ≤ b7 := by have := hk1.size; have := hk2.size; omega
    (repeat (first | refine pl_pure hT rfl rfl rfl ?_ | refine pl_nil ?_ | refine rn_seq ?_ | refine rn_plain ?_ | refine rn_block ?_ | refine rn_inBlock ?_ | refine rn_skip ?_ | refine rn_true rfl ?_ | refine rn_false rfl ?_ | refine rn_exit rfl ?_ | refine pl_not rfl rfl ?_))
    have hp := take_end (g := 89) (cap := [.pointer (some ⟨b5, 0, none⟩), .pointer (some ⟨b7, 0, none⟩)]) (fun t => decide (0 < kindL of t.text 1 most)) [b7] (fun t w' => Blk w' b7 [.int .i64 (kindL of t.text 1 most : Nat)] 3) (by decide +kernel) h4
      (fun k hk => by simp at hk; subst hk; exact ⟨by have := h.kp.size; omega, _, hz4⟩)
      (fun t w5 _ hk => beginTok_ret hg t (hw0.keep (h4.kp.tr hk)) (hk.blk hf4 (by simp)) (hk.blk hz4 (by simp)))
      (fun t w5 w6 fp hE hk hn => hk.blk hE (fun hm => hn b7 hm (by simp)))
    refine pl_opE Tryd.func81 rfl rfl (opE_call (fst := []) (cap := []) rfl rfl rfl rfl (by decide +kernel) (End.mono hp ?_ ?_))
    rotate_left
    · rintro v w5 ⟨e, hX, r⟩
      exact ⟨e, by rw [hT2, hX]; rfl, r⟩
    rintro r w5 ⟨q, hX, rfl, h5, hk5, hE5⟩
    (repeat (first | refine pl_pure hT rfl rfl rfl ?_ | refine pl_nil ?_ | refine rn_seq ?_ | refine rn_plain ?_ | refine rn_block ?_ | refine rn_inBlock ?_ | refine rn_skip ?_ | refine rn_true rfl ?_ | refine rn_false rfl ?_ | refine rn_exit rfl ?_ | refine pl_not rfl rfl ?_))
    refine pl_val _ rfl rfl (val_load1 hT rfl rfl rfl (hE5.cell rfl)) ?_
    (repeat (first | refine pl_pure hT rfl rfl rfl ?_ | refine pl_nil ?_ | refine rn_seq ?_ | refine rn_plain ?_ | refine rn_block ?_ | refine rn_inBlock ?_ | refine rn_skip ?_ | refine rn_true rfl ?_ | refine rn_false rfl ?_ | refine rn_exit rfl ?_ | refine pl_not rfl rfl ?_))
    refine rn_ret Tryd.func81 (.inl ⟨_, rfl, rfl⟩) ⟨(kindL of q.1.text 1 most, q.2), by rw [hT2, hX]; rfl, rfl, h5, hk04.trans hk5 (fun k hk => ?_)⟩
    simp at hk
    rcases hk with rfl | rfl
    · exact .inl (by simp)
    · exact .inr hb7

/-! ### A variable -/
theorem sameName_ret (n : List UInt8) (z : Int) {t : Tok} {b3 : Nat} (hb : Blk w b3 (tokL t) 32) :
    Ret Tryd.prog 91 [.agg (vcell (str n, z)).toArray, .pointer (some ⟨b3, 0, none⟩)] w fun r w' => r = .bool (n == t.text) ∧ Keep [] w w' := by
  refine ret_of 9 Tryd.func91 rfl rfl (by simp) ?_
  (repeat (first | refine pl_pure hT rfl rfl rfl ?_ | refine pl_nil ?_ | refine rn_seq ?_ | refine rn_plain ?_ | refine rn_block ?_ | refine rn_inBlock ?_ | refine rn_skip ?_ | refine rn_true rfl ?_ | refine rn_false rfl ?_ | refine rn_exit rfl ?_ | refine pl_not rfl rfl ?_))
  refine pl_op rfl rfl (opTo_boxN (vcell (str n, z)) rfl rfl rfl ?_)
  intro w1 b2 hb20 hs1 hk1 hz1
  (repeat (first | refine pl_pure hT rfl rfl rfl ?_ | refine pl_nil ?_ | refine rn_seq ?_ | refine rn_plain ?_ | refine rn_block ?_ | refine rn_inBlock ?_ | refine rn_skip ?_ | refine rn_true rfl ?_ | refine rn_false rfl ?_ | refine rn_exit rfl ?_ | refine pl_not rfl rfl ?_))
  refine pl_val _ rfl rfl (val_load1 hT rfl rfl rfl (hz1.cell rfl)) ?_
  (repeat (first | refine pl_pure hT rfl rfl rfl ?_ | refine pl_nil ?_ | refine rn_seq ?_ | refine rn_plain ?_ | refine rn_block ?_ | refine rn_inBlock ?_ | refine rn_skip ?_ | refine rn_true rfl ?_ | refine rn_false rfl ?_ | refine rn_exit rfl ?_ | refine pl_not rfl rfl ?_))
  refine pl_val _ rfl rfl (val_load1 hT rfl rfl rfl ((hk1.blk hb (by simp)).cell rfl)) ?_
  refine pl_val _ rfl rfl (val_eqS n t.text (n == t.text) rfl rfl rfl rfl w1) ?_
  (repeat (first | refine pl_pure hT rfl rfl rfl ?_ | refine pl_nil ?_ | refine rn_seq ?_ | refine rn_plain ?_ | refine rn_block ?_ | refine rn_inBlock ?_ | refine rn_skip ?_ | refine rn_true rfl ?_ | refine rn_false rfl ?_ | refine rn_exit rfl ?_ | refine pl_not rfl rfl ?_))
  exact rn_ret Tryd.func91 (.inl ⟨_, rfl, rfl⟩) ⟨rfl, hk1⟩
/-- Where the first one of that name stands, or -1. -/
def idxV (vs : List VarT) (s : List UInt8) : Int := match findV vs s with
  | some k => (k : Nat)
  | none => -1
theorem indexV_ret {B : Nat} (hv : Own w B 58 2 vv vs.length (vs.flatMap vcell)) (hl : vs.length ≤ 100000) {t : Tok} {b3 : Nat} (hb : Blk w b3 (tokL t) 32) :
    Ret Tryd.prog 65 [vv, .func (.func 91) #[] #[.pointer (some ⟨b3, 0, none⟩)]] w fun r w' => r = .int .i64 (idxV vs t.text) ∧ Keep [] w w' := by
  obtain ⟨av, cv, rfl⟩ := hv.form
  refine ret_of 19 Tryd.func65 rfl rfl (by simp) ?_
  (repeat (first | refine pl_pure hT rfl rfl rfl ?_ | refine pl_nil ?_ | refine rn_seq ?_ | refine rn_plain ?_ | refine rn_block ?_ | refine rn_inBlock ?_ | refine rn_skip ?_ | refine rn_true rfl ?_ | refine rn_false rfl ?_ | refine rn_exit rfl ?_ | refine pl_not rfl rfl ?_))
  refine rn_ind (fun m σ w' => ∃ k : Nat, k ≤ vs.length ∧ m = vs.length - k ∧ σ = [(0, .slice av vs.length cv), (1, .func (.func 91) #[] #[.pointer (some ⟨b3, 0, none⟩)]), (7, .int .i64 (vs.length : Nat)), (8, .int .i64 (k : Nat))] ∧
    findV vs t.text = (findV (vs.drop k) t.text).map (· + k) ∧ Keep [] w w') vs.length _ ?_ ⟨0, by omega, by omega, rfl, by simp, Keep.refl _ _⟩ ?_
  · exact ⟨rfl, rfl, rfl, rfl, trivial⟩
  rintro m σ w2 ih ⟨k, hk, rfl, rfl, hfd, hk2⟩
  (repeat (first | refine pl_pure hT rfl rfl rfl ?_ | refine pl_nil ?_ | refine rn_seq ?_ | refine rn_plain ?_ | refine rn_block ?_ | refine rn_inBlock ?_ | refine rn_skip ?_ | refine rn_true rfl ?_ | refine rn_false rfl ?_ | refine rn_exit rfl ?_ | refine pl_not rfl rfl ?_))
  by_cases hlt : k < vs.length
  · have hget : vs[k]? = some vs[k] := List.getElem?_eq_getElem hlt
    have hdrop : vs.drop k = vs[k] :: vs.drop (k + 1) := List.drop_eq_getElem_cons hlt
    obtain ⟨y, hy⟩ : ∃ y, y = vs[k] := ⟨_, rfl⟩
    rw [← hy] at hget hdrop
    have hf := flat_at (f := vcell) (k := 2) (fun p _ => rfl) hget
    obtain ⟨g, cap, hvv, hra⟩ := (hv.keep hk2 (by simp)).range (q := k * 2) (cs := vcell y) (by exact hf) (by omega)
    injection hvv with hvv _ _
    subst hvv
    obtain ⟨n, z⟩ := y
    obtain ⟨l, rfl⟩ : ∃ l, n = str l := ⟨n.data.toList, (str_data n).symm⟩
    refine pl_yes rfl rfl rfl rfl rfl (by first | (simp only [cmpP]; omega) | (simp [cmpP]; done) | (simp [cmpP]; omega)) ?_
    (repeat (first | refine pl_pure hT rfl rfl rfl ?_ | refine pl_nil ?_ | refine rn_seq ?_ | refine rn_plain ?_ | refine rn_block ?_ | refine rn_inBlock ?_ | refine rn_skip ?_ | refine rn_true rfl ?_ | refine rn_false rfl ?_ | refine rn_exit rfl ?_ | refine pl_not rfl rfl ?_))
    refine pl_val _ rfl rfl (val_index k hT rfl rfl rfl rfl rfl hlt w2) ?_
    refine pl_val _ rfl rfl (val_load (vcell (str l, z)) hT rfl rfl rfl (by rw [Nat.zero_add]; exact hra)) ?_
    refine pl_op rfl rfl (opTo_call (fst := []) (cap := [.pointer (some ⟨b3, 0, none⟩)]) rfl rfl rfl rfl (by decide +kernel) ((sameName_ret l z (hk2.blk hb (by simp))).mono ?_))
    rintro r w3 ⟨rfl, hk3⟩
    rw [hdrop, findV_cons] at hfd
    have el : (str l).data.toList = l := str_list l
    rw [show ((str l, z) : VarT).1.data.toList = l from el] at hfd
    cases hq : l == t.text with
    | true =>
      rw [hq, if_pos rfl] at hfd
      (repeat (first | refine pl_pure hT rfl rfl rfl ?_ | refine pl_nil ?_ | refine rn_seq ?_ | refine rn_plain ?_ | refine rn_block ?_ | refine rn_inBlock ?_ | refine rn_skip ?_ | refine rn_true rfl ?_ | refine rn_false rfl ?_ | refine rn_exit rfl ?_ | refine pl_not rfl rfl ?_))
      refine rn_ret Tryd.func65 (.inl ⟨_, rfl, rfl⟩) ⟨?_, hk2.tr hk3⟩
      unfold idxV
      rw [hfd]
      simp
    | false =>
      rw [hq, if_neg (by decide)] at hfd
      (repeat (first | refine pl_pure hT rfl rfl rfl ?_ | refine pl_nil ?_ | refine rn_seq ?_ | refine rn_plain ?_ | refine rn_block ?_ | refine rn_inBlock ?_ | refine rn_skip ?_ | refine rn_true rfl ?_ | refine rn_false rfl ?_ | refine rn_exit rfl ?_ | refine pl_not rfl rfl ?_))
      refine pl_num (((k + 1 : Nat) : Int)) rfl rfl rfl rfl rfl (by simp only [ariP]; omega) ?_
      (repeat (first | refine pl_pure hT rfl rfl rfl ?_ | refine pl_nil ?_ | refine rn_seq ?_ | refine rn_plain ?_ | refine rn_block ?_ | refine rn_inBlock ?_ | refine rn_skip ?_ | refine rn_true rfl ?_ | refine rn_false rfl ?_ | refine rn_exit rfl ?_ | refine pl_not rfl rfl ?_))
      refine rn_sub ?_ (ih _ _ _ ?_ ⟨k + 1, by omega, rfl, rfl, ?_, hk2.tr hk3⟩)
      · exact ⟨rfl, rfl, rfl, rfl, trivial⟩
      · omega
      · rw [hfd]
        cases findV (vs.drop (k + 1)) t.text with
        | none => rfl
        | some j => simp; omega
  · refine pl_no rfl rfl rfl rfl rfl rfl (by first | (simp only [cmpP]; omega) | (simp [cmpP]; done) | (simp [cmpP]; omega)) ?_
    (repeat (first | refine pl_pure hT rfl rfl rfl ?_ | refine pl_nil ?_ | refine rn_seq ?_ | refine rn_plain ?_ | refine rn_block ?_ | refine rn_inBlock ?_ | refine rn_skip ?_ | refine rn_true rfl ?_ | refine rn_false rfl ?_ | refine rn_exit rfl ?_ | refine pl_not rfl rfl ?_))
    refine rn_ret Tryd.func65 (.inl ⟨_, rfl, rfl⟩) ⟨?_, hk2⟩
    unfold idxV
    rw [hfd, List.drop_of_length_le (by omega)]
    rfl

theorem variable_end (h : Rd w0 lv ts fin b vv vs w i) (hvl : vs.length ≤ 100000) :
    Goes 82 [.pointer (some ⟨b, 0, none⟩)] w0 w (varP ts fin vs i) fun q r w' => r = .int .i64 (q.1 : Nat) ∧ Rd w0 lv ts fin b vv vs w' q.2 ∧ Keep [b] w w' := by
  refine end_of 19 Tryd.func82 rfl rfl (by simp) ?_
  (repeat (first | refine pl_pure hT rfl rfl rfl ?_ | refine pl_nil ?_ | refine rn_seq ?_ | refine rn_plain ?_ | refine rn_block ?_ | refine rn_inBlock ?_ | refine rn_skip ?_ | refine rn_true rfl ?_ | refine rn_false rfl ?_ | refine rn_exit rfl ?_ | refine pl_not rfl rfl ?_))
  have hblt := h.lt
  obtain ⟨TOT, hTOT⟩ : ∃ TOT, TOT = varP ts fin vs i := ⟨_, rfl⟩
  rw [← hTOT]
  have hT1 : TOT = bnd (takeP ts fin (fun t => nameB t.text) i) fun q => match findV vs q.1.text with | some k => .ok (k, q.2) | none => .error (wrongAt ts fin 10 i) := by
    rw [hTOT]
    unfold varP
    rw [name_take]
    cases takeP ts fin (fun t => nameB t.text) i <;> rfl
  refine pl_opE Tryd.func82 rfl rfl (opE_call (fst := []) (cap := []) rfl rfl rfl rfl (by decide +kernel) (End.mono (takeName_end h) ?_ ?_))
  rotate_left
  · rintro v w2 ⟨e, hX, r⟩
    exact ⟨e, by rw [hT1, hX]; rfl, r⟩
  rintro r w1 ⟨q, hX, rfl, h1, hk1⟩
  obtain ⟨t, j⟩ := q
  have hget := (takeP_ok hX).1
  rw [hX] at hT1
  have hT2 : TOT = match findV vs t.text with | some k => .ok (k, j) | none => .error (wrongAt ts fin 10 i) := hT1
  refine pl_op rfl rfl (opTo_allocN _ rfl zero_tok ?_)
  intro w2 b3 hb30 hs2 hk2 hz2
  refine pl_op rfl rfl (opTo_storeN (tokL t) rfl rfl rfl rfl size_tok hz2 (by simp [tokC, tokL]) (tokC_one _ _ _ _) ?_)
  intro w3 hs3 hk3 hz3
  rw [splice_whole (by rfl)] at hz3
  have hk13 : Keep [] w1 w3 := hk2.trB hk3 (by omega)
  have h3 := h1.keep0 hk13
  obtain ⟨a3, c3, hb3, _⟩ := h3.blk
  (repeat (first | refine pl_pure hT rfl rfl rfl ?_ | refine pl_nil ?_ | refine rn_seq ?_ | refine rn_plain ?_ | refine rn_block ?_ | refine rn_inBlock ?_ | refine rn_skip ?_ | refine rn_true rfl ?_ | refine rn_false rfl ?_ | refine rn_exit rfl ?_ | refine pl_not rfl rfl ?_))
  refine pl_val _ rfl rfl (val_load1 hT rfl rfl rfl (hb3.cell rfl)) ?_
  (repeat (first | refine pl_pure hT rfl rfl rfl ?_ | refine pl_nil ?_ | refine rn_seq ?_ | refine rn_plain ?_ | refine rn_block ?_ | refine rn_inBlock ?_ | refine rn_skip ?_ | refine rn_true rfl ?_ | refine rn_false rfl ?_ | refine rn_exit rfl ?_ | refine pl_not rfl rfl ?_))
  refine pl_op rfl rfl (opTo_call (fst := []) (cap := []) rfl rfl rfl rfl (by decide +kernel) ((indexV_ret h3.var hvl hz3).mono ?_))
  rintro r w4 ⟨rfl, hk4⟩
  have h4 := h3.keep0 hk4
  have hz4 := hk4.blk hz3 (by simp)
  (repeat (first | refine pl_pure hT rfl rfl rfl ?_ | refine pl_nil ?_ | refine rn_seq ?_ | refine rn_plain ?_ | refine rn_block ?_ | refine rn_inBlock ?_ | refine rn_skip ?_ | refine rn_true rfl ?_ | refine rn_false rfl ?_ | refine rn_exit rfl ?_ | refine pl_not rfl rfl ?_))
  unfold idxV
  cases hfv : findV vs t.text with
  | some k =>
    rw [hfv] at hT2
    refine pl_no rfl rfl rfl rfl rfl rfl (by first | (simp only [cmpP]; omega) | (simp [cmpP]; done) | (simp [cmpP]; omega)) ?_
    (repeat (first | refine pl_pure hT rfl rfl rfl ?_ | refine pl_nil ?_ | refine rn_seq ?_ | refine rn_plain ?_ | refine rn_block ?_ | refine rn_inBlock ?_ | refine rn_skip ?_ | refine rn_true rfl ?_ | refine rn_false rfl ?_ | refine rn_exit rfl ?_ | refine pl_not rfl rfl ?_))
    exact rn_ret Tryd.func82 (.inl ⟨_, rfl, rfl⟩) ⟨(k, j), hT2, rfl, h4, (hk1.tr0 hk13).tr0 hk4⟩
  | none =>
    rw [hfv] at hT2
    refine pl_yes rfl rfl rfl rfl rfl (by first | (simp only [cmpP]; omega) | (simp [cmpP]; done) | (simp [cmpP]; omega)) ?_
    (repeat (first | refine pl_pure hT rfl rfl rfl ?_ | refine pl_nil ?_ | refine rn_seq ?_ | refine rn_plain ?_ | refine rn_block ?_ | refine rn_inBlock ?_ | refine rn_skip ?_ | refine rn_true rfl ?_ | refine rn_false rfl ?_ | refine rn_exit rfl ?_ | refine pl_not rfl rfl ?_))
    refine pl_val _ rfl rfl (val_load1 hT rfl rfl rfl (hz4.cell rfl)) ?_
    refine pl_opE Tryd.func82 rfl rfl (opE_call (fst := []) (cap := []) rfl rfl rfl rfl (by decide +kernel) ((giveUp_end 10 _ _).mono ?_ ?_))
    · intro v w' hf
      exact hf.elim
    · rintro v w' ⟨rfl, rfl⟩
      exact ⟨wrongAt ts fin 10 i, hT2, by rw [wrong_get hget], h4.kp⟩
end
end E
end Go.Proofs.YthbkcadiejfgaacDoor

/- The landed reader: an expression. -/
namespace Go.Proofs.YthbkcadiejfgaacDoor
set_option maxRecDepth 20000
set_option maxHeartbeats 4000000
namespace E
open Go.Proofs

section
variable {w0 w w' : World} {lv vv : Value} {ts : List Tok} {fin b i : Nat} {vs : List VarT}
theorem Rd.put {c : Nat} {L : List Value} {e : TypeId} (h : Rd w0 lv ts fin b vv vs w i) (hb : Blk w c L e) (hc : w0.heap.size ≤ c) (hk : Keep [c] w w') (he : e ≠ 32 ∧ e ≠ 58 ∧ e ≠ 72) : Rd w0 lv ts fin b vv vs w' i :=
  h.keepT hk (fun k hk' => by simp at hk'; subst hk'; exact ⟨hc, L, e, hb, he.1, he.2.1, he.2.2⟩)
theorem Rd.app {B e size ln m g : Nat} {sl : Value} {xs : List Value} (h : Rd w0 lv ts fin b vv vs w i) (hown : Own w B e size sl ln xs) (hB : w0.heap.size ≤ B) (he : e ≠ 32 ∧ e ≠ 58 ∧ e ≠ 72)
    (hor : (sl.ownBlock = some g ∧ ln + m ≤ capOf sl ∧ Keep [g] w w') ∨ (g = w.heap.size ∧ Keep [] w w' ∧ w'.heap.size = w.heap.size + 1)) : Rd w0 lv ts fin b vv vs w' i := by
  rcases hor with ⟨h1, _, h2⟩ | ⟨_, h2, _⟩
  · rcases hown.2 with ⟨hv, _⟩ | ⟨g', c', cur', hv, hB', hg', _⟩
    · rw [hv] at h1; simp [Value.ownBlock] at h1
    · rw [hv] at h1
      simp [Value.ownBlock] at h1
      subst h1
      exact h.put hg' (by omega) h2 he
  · exact h.keep0 h2

/-- An expression that was made since w. -/
def XpR (w w' : World) (r : Value) (t : ET) : Prop := ∃ (cs : List Value) (F : Nat → Prop), r = .agg cs.toArray ∧ ExprV F w' cs t ∧ ∀ c, F c → w.heap.size ≤ c ∧ c < w'.heap.size

theorem expr_end (hct : Ct ts) (hw0 : Lw w0) (hvl : vs.length ≤ 100000) : ∀ (f deep i : Nat) {w : World}, deep + f = 13 → Rd w0 lv ts fin b vv vs w i →
    Goes 83 [.pointer (some ⟨b, 0, none⟩), .int .i64 (deep : Nat)] w0 w (exprP ts fin vs f i) fun q r w' => XpR w w' r q.1 ∧ Rd w0 lv ts fin b vv vs w' q.2 ∧ Keep [b] w w' := by
  intro f
  induction f using Nat.strongRecOn with
  | _ f ih =>
  intro deep i w hdf h
  have hbw := h.lt
  refine end_of 42 Tryd.func83 rfl rfl (by simp) ?_
  (repeat (first | refine pl_pure hT rfl rfl rfl ?_ | refine pl_nil ?_ | refine rn_seq ?_ | refine rn_plain ?_ | refine rn_block ?_ | refine rn_inBlock ?_ | refine rn_skip ?_ | refine rn_true rfl ?_ | refine rn_false rfl ?_ | refine rn_exit rfl ?_ | refine pl_not rfl rfl ?_))
  refine pl_op rfl rfl (opTo_allocN _ rfl zero_ex ?_)
  intro w1 b4 hb40 hs1 hk1 hz1
  have h1 := h.keep0 hk1
  (repeat (first | refine pl_pure hT rfl rfl rfl ?_ | refine pl_nil ?_ | refine rn_seq ?_ | refine rn_plain ?_ | refine rn_block ?_ | refine rn_inBlock ?_ | refine rn_skip ?_ | refine rn_true rfl ?_ | refine rn_false rfl ?_ | refine rn_exit rfl ?_ | refine pl_not rfl rfl ?_))
  obtain ⟨one, hone⟩ : ∃ one, one = exprP ts fin vs (f - 1) := ⟨_, rfl⟩
  rw [exprP_eq ts fin vs hdf i, ← hone]
  obtain ⟨TOT, hTOT⟩ : ∃ TOT, TOT = bnd (bnd (if 12 < deep then .error (wrongAt ts fin 4 i) else .ok i) (beginP ts fin wordT 8)) (fun (k, i1) => rest1 ts fin vs one k i1) := ⟨_, rfl⟩
  rw [← hTOT]
  refine pl_opE Tryd.func83 rfl rfl (opE_call (fst := []) (cap := []) rfl rfl rfl rfl (by decide +kernel) (End.mono (begin_end hct hw0 h1 wr_word deep) ?_ ?_))
  rotate_left
  · rintro v w2 ⟨e, hX, r⟩
    exact ⟨e, by rw [hTOT, hX]; rfl, r⟩
  rintro r w2 ⟨⟨kk, i1⟩, hX1, rfl, h2, hk2⟩
  rw [hX1] at hTOT
  have hT1 : TOT = rest1 ts fin vs one kk i1 := hTOT
  have hd : ¬ 12 < deep := by
    intro hd
    rw [if_pos hd] at hX1
    cases hX1
  rw [if_neg hd] at hX1
  obtain ⟨_, _, hkk1, hkk8⟩ := beginP_ok (show beginP ts fin wordT 8 i = .ok (kk, i1) from hX1)
  dsimp only at hkk1 hkk8
  have hz2 := hk2.blk hz1 (by simp; omega)
  have hk02 : Keep [b] w w2 := (Keep.of0 hk1).tr hk2
  have hw2 : w1.heap.size ≤ w2.heap.size := hk2.size
  refine pl_val _ rfl rfl (val_build _ rfl rfl (built_expr (kk : Nat)) w2) ?_
  refine pl_op rfl rfl (opTo_allocN _ rfl zero_ex ?_)
  intro w3 b5 hb50 hs3 hk3 hz3
  refine pl_op rfl rfl (opTo_storeN (xC (kk : Nat) 0 0 (.slice none 0 0)) rfl rfl rfl rfl size_expr hz3 (by simp [xC]) (xC_one rfl) ?_)
  intro w4 hs4 hk4 hz4
  rw [splice_whole (by rfl)] at hz4
  have hk24 : Keep [] w2 w4 := hk3.trB hk4 (by omega)
  have h4 := h2.keep0 hk24
  have hy4 := hk24.blk hz2 (by simp)
  have hk04 : Keep [b] w w4 := hk02.tr0 hk24
  obtain ⟨B, hB⟩ : ∃ B, B = w4.heap.size := ⟨_, rfl⟩
  have hB4 : b4 < B := by have := hy4.lt; omega
  have hB5 : b5 < B := by have := hz4.lt; omega
  have hbB : b < B := by have := hk04.size; omega
  have hb45 : b4 ≠ b5 := by omega
  have hbb4 : b ≠ b4 := by omega
  have hbb5 : b ≠ b5 := by omega
  have hBw : w.heap.size ≤ B := by have := hk04.size; omega
  have hw0B : w0.heap.size ≤ b5 := by have := h.kp.size; omega
  (repeat (first | refine pl_pure hT rfl rfl rfl ?_ | refine pl_not rfl rfl ?_ | refine pl_nil ?_ | refine rn_inBlock ?_ | refine rn_skip ?_ | refine rn_true rfl ?_ | refine rn_false rfl ?_ | refine rn_exit rfl ?_))
  refine rn_seq ?_
  refine rn_with (fun σ' w' => ∃ (n : Int) (v i3 : Nat), TOT = rest3 ts fin one kk n v i3 ∧ Rd w0 lv ts fin b vv vs w' i3 ∧
    Blk w' b5 (xC (kk : Nat) (v : Nat) n (.slice none 0 0)) 50 ∧ Blk w' b4 [.int .i64 0, .int .i64 0, .int .i64 0, .slice none 0 0] 50 ∧ Keep [b] w w' ∧ B ≤ w'.heap.size ∧
    Sub [(0, .pointer (some ⟨b, 0, none⟩)), (1, .int .i64 (deep : Nat)), (4, .pointer (some ⟨b4, 0, none⟩)), (5, .pointer (some ⟨b5, 0, none⟩))] σ') ?_ ?_
  rotate_left
  · intro fin1
    refine rn_seq ?_
    refine rn_plain ?_
    (repeat (first | refine pl_pure hT rfl rfl rfl ?_ | refine pl_not rfl rfl ?_ | refine pl_nil ?_ | refine rn_inBlock ?_ | refine rn_skip ?_ | refine rn_true rfl ?_ | refine rn_false rfl ?_ | refine rn_exit rfl ?_))
    refine pl_val _ rfl rfl (val_load1 hT rfl rfl rfl (hz4.cell rfl)) ?_
    (repeat (first | refine pl_pure hT rfl rfl rfl ?_ | refine pl_not rfl rfl ?_ | refine pl_nil ?_ | refine rn_inBlock ?_ | refine rn_skip ?_ | refine rn_true rfl ?_ | refine rn_false rfl ?_ | refine rn_exit rfl ?_))
    refine rn_block ?_
    refine rn_seq ?_
    refine rn_plain ?_
    by_cases hk1' : kk = 1
    · refine pl_yes rfl rfl rfl rfl rfl (by first | (simp only [cmpP]; omega) | (simp [cmpP]; done) | (simp [cmpP]; omega)) ?_
      (repeat (first | refine pl_pure hT rfl rfl rfl ?_ | refine pl_not rfl rfl ?_ | refine pl_nil ?_ | refine rn_inBlock ?_ | refine rn_skip ?_ | refine rn_true rfl ?_ | refine rn_false rfl ?_ | refine rn_exit rfl ?_))
      refine rn_plain ?_
      (repeat (first | refine pl_pure hT rfl rfl rfl ?_ | refine pl_not rfl rfl ?_ | refine pl_nil ?_ | refine rn_inBlock ?_ | refine rn_skip ?_ | refine rn_true rfl ?_ | refine rn_false rfl ?_ | refine rn_exit rfl ?_))
      have hT2 : TOT = bnd (takeP ts fin (fun t => t.num) i1) fun q => rest2 ts fin vs one kk q.1.val q.2 := by
        rw [hT1]
        unfold rest1
        rw [if_pos hk1', num_take]
        cases takeP ts fin (fun t => t.num) i1 <;> rfl
      refine pl_opE Tryd.func83 rfl rfl (opE_call (fst := []) (cap := []) rfl rfl rfl rfl (by decide +kernel) (End.mono (takeNum_end h4) ?_ ?_))
      rotate_left
      · rintro v w5 ⟨e, hX, r⟩
        exact ⟨e, by rw [hT2, hX]; rfl, r⟩
      rintro r w5 ⟨⟨t, j⟩, hX, rfl, h5, hk5⟩
      rw [hX] at hT2
      have hT3 : TOT = rest2 ts fin vs one kk t.val j := hT2
      have hz5 := hk5.blk hz4 (by simp; omega)
      have hy5 := hk5.blk hy4 (by simp; omega)
      refine pl_val _ rfl rfl (val_field1 3 (tokL t) rfl rfl (by decide +kernel) rfl w5) ?_
      (repeat (first | refine pl_pure hT rfl rfl rfl ?_ | refine pl_not rfl rfl ?_ | refine pl_nil ?_ | refine rn_inBlock ?_ | refine rn_skip ?_ | refine rn_true rfl ?_ | refine rn_false rfl ?_ | refine rn_exit rfl ?_))
      refine pl_op rfl rfl (opTo_storeN [.int .i64 t.val] rfl rfl rfl rfl size_long hz5 (by simp [xC]) (by simp; rfl) ?_)
      intro w6 hs6 hk6 hz6
      have hsp : splice (xC (kk : Nat) 0 0 (.slice none 0 0)) 2 [.int .i64 t.val] = xC (kk : Nat) 0 t.val (.slice none 0 0) := rfl
      rw [hsp] at hz6
      (repeat (first | refine pl_pure hT rfl rfl rfl ?_ | refine pl_not rfl rfl ?_ | refine pl_nil ?_ | refine rn_inBlock ?_ | refine rn_skip ?_ | refine rn_true rfl ?_ | refine rn_false rfl ?_ | refine rn_exit rfl ?_))
      refine fin1 _ _ ⟨t.val, 0, j, ?_, h5.put hz5 hw0B hk6 (by decide), hz6, hk6.blk hy5 (by simp; omega), (hk04.tr hk5).trB hk6 (by omega), ?_, rfl, rfl, rfl, rfl, trivial⟩
      · rw [hT3]
        unfold rest2
        rw [if_neg (by omega)]
        rfl
      · have := hk5.size
        have := hk6.size
        omega
    · refine pl_no rfl rfl rfl rfl rfl rfl (by first | (simp only [cmpP]; omega) | (simp [cmpP]; done) | (simp [cmpP]; omega)) ?_
      (repeat (first | refine pl_pure hT rfl rfl rfl ?_ | refine pl_not rfl rfl ?_ | refine pl_nil ?_ | refine rn_inBlock ?_ | refine rn_skip ?_ | refine rn_true rfl ?_ | refine rn_false rfl ?_ | refine rn_exit rfl ?_))
      have hT2 : TOT = rest2 ts fin vs one kk 0 i1 := by
        rw [hT1]
        unfold rest1
        rw [if_neg hk1']
        rfl
      by_cases h23 : kk = 2 ∨ kk = 3
      · have hT3 : TOT = bnd (varP ts fin vs i1) fun q => rest3 ts fin one kk 0 q.1 q.2 := by
          rw [hT2]
          unfold rest2
          rw [if_pos h23]
        have key : ∀ (r : Value) (w5 : World), (∃ a, varP ts fin vs i1 = .ok a ∧ r = .int .i64 (a.1 : Nat) ∧ Rd w0 lv ts fin b vv vs w5 a.2 ∧ Keep [b] w4 w5) → ∃ v j : Nat, r = .int .i64 (v : Nat) ∧ TOT = rest3 ts fin one kk 0 v j ∧ Rd w0 lv ts fin b vv vs w5 j ∧ Keep [b] w4 w5 := by
          rintro r w5 ⟨⟨v, j⟩, hX, hr, h5, hk5⟩
          exact ⟨v, j, hr, by rw [hT3, hX]; rfl, h5, hk5⟩
        rcases h23 with h2' | h3'
        · refine rn_seq ?_
          refine rn_seq ?_
          refine rn_plain ?_
          refine pl_yes rfl rfl rfl rfl rfl (by first | (simp only [cmpP]; omega) | (simp [cmpP]; done) | (simp [cmpP]; omega)) ?_
          (repeat (first | refine pl_pure hT rfl rfl rfl ?_ | refine pl_not rfl rfl ?_ | refine pl_nil ?_ | refine rn_inBlock ?_ | refine rn_skip ?_ | refine rn_true rfl ?_ | refine rn_false rfl ?_ | refine rn_exit rfl ?_))
          refine rn_plain ?_
          (repeat (first | refine pl_pure hT rfl rfl rfl ?_ | refine pl_not rfl rfl ?_ | refine pl_nil ?_ | refine rn_inBlock ?_ | refine rn_skip ?_ | refine rn_true rfl ?_ | refine rn_false rfl ?_ | refine rn_exit rfl ?_))
          refine pl_opE Tryd.func83 rfl rfl (opE_call (fst := []) (cap := []) rfl rfl rfl rfl (by decide +kernel) (End.mono (variable_end h4 hvl) ?_ ?_))
          rotate_left
          · rintro v w5 ⟨e, hX, r⟩
            exact ⟨e, by rw [hT3, hX]; rfl, r⟩
          intro r w5 hh
          obtain ⟨v, j, rfl, hT4, h5, hk5⟩ := key r w5 hh
          have hz5 := hk5.blk hz4 (by simp; omega)
          have hy5 := hk5.blk hy4 (by simp; omega)
          (repeat (first | refine pl_pure hT rfl rfl rfl ?_ | refine pl_not rfl rfl ?_ | refine pl_nil ?_ | refine rn_inBlock ?_ | refine rn_skip ?_ | refine rn_true rfl ?_ | refine rn_false rfl ?_ | refine rn_exit rfl ?_))
          refine pl_op rfl rfl (opTo_storeN [.int .i64 ((v : Nat) : Int)] rfl rfl rfl rfl size_int hz5 (by simp [xC]) (by simp; rfl) ?_)
          intro w6 hs6 hk6 hz6
          have hsp : splice (xC (kk : Nat) 0 0 (.slice none 0 0)) 1 [.int .i64 ((v : Nat) : Int)] = xC (kk : Nat) (v : Nat) 0 (.slice none 0 0) := rfl
          rw [hsp] at hz6
          (repeat (first | refine pl_pure hT rfl rfl rfl ?_ | refine pl_not rfl rfl ?_ | refine pl_nil ?_ | refine rn_inBlock ?_ | refine rn_skip ?_ | refine rn_true rfl ?_ | refine rn_false rfl ?_ | refine rn_exit rfl ?_))
          refine fin1 _ _ ⟨0, v, j, hT4, h5.put hz5 hw0B hk6 (by decide), hz6, hk6.blk hy5 (by simp; omega), (hk04.tr hk5).trB hk6 (by omega), ?_, rfl, rfl, rfl, rfl, trivial⟩
          have := hk5.size
          have := hk6.size
          omega
        · refine rn_seq ?_
          refine rn_seq ?_
          refine rn_plain ?_
          refine pl_no rfl rfl rfl rfl rfl rfl (by first | (simp only [cmpP]; omega) | (simp [cmpP]; done) | (simp [cmpP]; omega)) ?_
          (repeat (first | refine pl_pure hT rfl rfl rfl ?_ | refine pl_not rfl rfl ?_ | refine pl_nil ?_ | refine rn_inBlock ?_ | refine rn_skip ?_ | refine rn_true rfl ?_ | refine rn_false rfl ?_ | refine rn_exit rfl ?_))
          refine rn_plain ?_
          refine pl_yes rfl rfl rfl rfl rfl (by first | (simp only [cmpP]; omega) | (simp [cmpP]; done) | (simp [cmpP]; omega)) ?_
          (repeat (first | refine pl_pure hT rfl rfl rfl ?_ | refine pl_not rfl rfl ?_ | refine pl_nil ?_ | refine rn_inBlock ?_ | refine rn_skip ?_ | refine rn_true rfl ?_ | refine rn_false rfl ?_ | refine rn_exit rfl ?_))
          refine rn_plain ?_
          (repeat (first | refine pl_pure hT rfl rfl rfl ?_ | refine pl_not rfl rfl ?_ | refine pl_nil ?_ | refine rn_inBlock ?_ | refine rn_skip ?_ | refine rn_true rfl ?_ | refine rn_false rfl ?_ | refine rn_exit rfl ?_))
          refine pl_opE Tryd.func83 rfl rfl (opE_call (fst := []) (cap := []) rfl rfl rfl rfl (by decide +kernel) (End.mono (variable_end h4 hvl) ?_ ?_))
          rotate_left
          · rintro v w5 ⟨e, hX, r⟩
            exact ⟨e, by rw [hT3, hX]; rfl, r⟩
          intro r w5 hh
          obtain ⟨v, j, rfl, hT4, h5, hk5⟩ := key r w5 hh
          have hz5 := hk5.blk hz4 (by simp; omega)
          have hy5 := hk5.blk hy4 (by simp; omega)
          (repeat (first | refine pl_pure hT rfl rfl rfl ?_ | refine pl_not rfl rfl ?_ | refine pl_nil ?_ | refine rn_inBlock ?_ | refine rn_skip ?_ | refine rn_true rfl ?_ | refine rn_false rfl ?_ | refine rn_exit rfl ?_))
          refine pl_op rfl rfl (opTo_storeN [.int .i64 ((v : Nat) : Int)] rfl rfl rfl rfl size_int hz5 (by simp [xC]) (by simp; rfl) ?_)
          intro w6 hs6 hk6 hz6
          have hsp : splice (xC (kk : Nat) 0 0 (.slice none 0 0)) 1 [.int .i64 ((v : Nat) : Int)] = xC (kk : Nat) (v : Nat) 0 (.slice none 0 0) := rfl
          rw [hsp] at hz6
          (repeat (first | refine pl_pure hT rfl rfl rfl ?_ | refine pl_not rfl rfl ?_ | refine pl_nil ?_ | refine rn_inBlock ?_ | refine rn_skip ?_ | refine rn_true rfl ?_ | refine rn_false rfl ?_ | refine rn_exit rfl ?_))
          refine fin1 _ _ ⟨0, v, j, hT4, h5.put hz5 hw0B hk6 (by decide), hz6, hk6.blk hy5 (by simp; omega), (hk04.tr hk5).trB hk6 (by omega), ?_, rfl, rfl, rfl, rfl, trivial⟩
          have := hk5.size
          have := hk6.size
          omega
      · refine rn_seq ?_
        refine rn_seq ?_
        refine rn_plain ?_
        refine pl_no rfl rfl rfl rfl rfl rfl (by first | (simp only [cmpP]; omega) | (simp [cmpP]; done) | (simp [cmpP]; omega)) ?_
        (repeat (first | refine pl_pure hT rfl rfl rfl ?_ | refine pl_not rfl rfl ?_ | refine pl_nil ?_ | refine rn_inBlock ?_ | refine rn_skip ?_ | refine rn_true rfl ?_ | refine rn_false rfl ?_ | refine rn_exit rfl ?_))
        refine rn_plain ?_
        refine pl_no rfl rfl rfl rfl rfl rfl (by first | (simp only [cmpP]; omega) | (simp [cmpP]; done) | (simp [cmpP]; omega)) ?_
        (repeat (first | refine pl_pure hT rfl rfl rfl ?_ | refine pl_not rfl rfl ?_ | refine pl_nil ?_ | refine rn_inBlock ?_ | refine rn_skip ?_ | refine rn_true rfl ?_ | refine rn_false rfl ?_ | refine rn_exit rfl ?_))
        refine fin1 _ _ ⟨0, 0, i1, ?_, h4, hz4, hy4, hk04, by omega, rfl, rfl, rfl, rfl, trivial⟩
        rw [hT2]
        unfold rest2
        rw [if_neg h23]
        rfl
  rintro σ' w6 ⟨n, v, i3, hT3, h6, hz6, hy6, hk06, hB6w, hsub⟩
  refine rn_sub hsub ?_
  obtain ⟨parts, hparts⟩ : ∃ parts, parts = (partsOf ((kk : Nat) : Int)).toNat := ⟨_, rfl⟩
  have hpr := partsOf_range kk hkk1 hkk8
  have hp2 : parts ≤ 2 := by omega
  have hpe : partsOf ((kk : Nat) : Int) = (parts : Nat) := by omega
  refine rn_seq ?_
  refine rn_seq ?_
  refine rn_plain ?_
  (repeat (first | refine pl_pure hT rfl rfl rfl ?_ | refine pl_not rfl rfl ?_ | refine pl_nil ?_ | refine rn_inBlock ?_ | refine rn_skip ?_ | refine rn_true rfl ?_ | refine rn_false rfl ?_ | refine rn_exit rfl ?_))
  refine pl_val _ rfl rfl (val_load1 hT rfl rfl rfl (hz6.cell rfl)) ?_
  refine pl_op rfl rfl (opTo_call (fst := []) (cap := []) rfl rfl rfl rfl (by decide +kernel) ((parts_ret ((kk : Nat) : Int) w6).mono ?_))
  rintro r w6' ⟨rfl, rfl⟩
  rw [hpe]
  (repeat (first | refine pl_pure hT rfl rfl rfl ?_ | refine pl_not rfl rfl ?_ | refine pl_nil ?_ | refine rn_inBlock ?_ | refine rn_skip ?_ | refine rn_true rfl ?_ | refine rn_false rfl ?_ | refine rn_exit rfl ?_))
  refine rn_block ?_
  refine rn_ind (fun m σ w' => ∃ (k j : Nat) (l : List ET) (sl : Value), k ≤ parts ∧ m = parts - k ∧ sl.oneCell' = true ∧ σ = [(0, .pointer (some ⟨b, 0, none⟩)), (1, .int .i64 (deep : Nat)), (4, .pointer (some ⟨b4, 0, none⟩)), (5, .pointer (some ⟨b5, 0, none⟩)), (26, .int .i64 (parts : Nat)), (27, .int .i64 (k : Nat))] ∧
    TOT = bnd (manyP one (parts - k) j) (fun (r, j) => rest4 ts fin kk n v (l ++ r) j) ∧ l.length = k ∧ RowE w' B sl l ∧ Rd w0 lv ts fin b vv vs w' j ∧
    Blk w' b5 (xC (kk : Nat) (v : Nat) n sl) 50 ∧ Blk w' b4 [.int .i64 0, .int .i64 0, .int .i64 0, .slice none 0 0] 50 ∧ Keep [b] w w' ∧ B ≤ w'.heap.size) parts _ ?_
    ⟨0, i3, [], .slice none 0 0, by omega, by omega, rfl, rfl, ?_, rfl, RowE.nil _ _, h6, hz6, hy6, hk06, hB6w⟩ ?_
  · exact ⟨rfl, rfl, rfl, rfl, rfl, rfl, trivial⟩
  · rw [hT3, Nat.sub_zero, hparts]
    rfl
  rintro m σ w7 ih2 ⟨k, j, l, sl, hkp, rfl, hsl, rfl, hT7, hlk, hrow, h7, hz7, hy7, hk07, hB7w⟩
  (repeat (first | refine pl_pure hT rfl rfl rfl ?_ | refine pl_nil ?_ | refine rn_seq ?_ | refine rn_plain ?_ | refine rn_block ?_ | refine rn_inBlock ?_ | refine rn_skip ?_ | refine rn_true rfl ?_ | refine rn_false rfl ?_ | refine rn_exit rfl ?_ | refine pl_not rfl rfl ?_))
  by_cases hltp : k < parts
  · refine pl_yes rfl rfl rfl rfl rfl (by first | (simp only [cmpP]; omega) | (simp [cmpP]; done) | (simp [cmpP]; omega)) ?_
    (repeat (first | refine pl_pure hT rfl rfl rfl ?_ | refine pl_nil ?_ | refine rn_seq ?_ | refine rn_plain ?_ | refine rn_block ?_ | refine rn_inBlock ?_ | refine rn_skip ?_ | refine rn_true rfl ?_ | refine rn_false rfl ?_ | refine rn_exit rfl ?_ | refine pl_not rfl rfl ?_))
    have hkd : Keep [] w7 w7.drew := (Keep.refl _ _).drew
    refine rn_draw (fun w' => True ∧ Blk w' b5 (xC (kk : Nat) (v : Nat) n sl) 50) [9] hMix ?_
    have hz9 := hkd.blk hz7 (by simp)
    have hS : True ∧ Blk w7.drew b5 (xC (kk : Nat) (v : Nat) n sl) 50 := ⟨trivial, hz9⟩
    have hstep : parts - k = (parts - (k + 1)) + 1 := by omega
    have hT8 : TOT = bnd (exprP ts fin vs (f - 1) j) fun q => bnd (manyP one (parts - (k + 1)) q.2) (fun (r, j) => rest4 ts fin kk n v ((l ++ [q.1]) ++ r) j) := by
      rw [hT7, hstep, manyP, hone]
      cases exprP ts fin vs (f - 1) j with
      | error e => rfl
      | ok q =>
        obtain ⟨t, j'⟩ := q
        show bnd (bnd (manyP (exprP ts fin vs (f - 1)) (parts - (k + 1)) j') _) _ = bnd (manyP (exprP ts fin vs (f - 1)) (parts - (k + 1)) j') _
        cases manyP (exprP ts fin vs (f - 1)) (parts - (k + 1)) j' with
        | error e => rfl
        | ok q =>
          obtain ⟨r', k'⟩ := q
          show rest4 ts fin kk n v (l ++ t :: r') k' = rest4 ts fin kk n v (l ++ [t] ++ r') k'
          rw [List.append_assoc]
          rfl
    try (first | refine dr_pure 0 hT rfl (by decide +kernel) rfl rfl rfl ?_ | refine dr_not 0 rfl (by decide +kernel) rfl rfl ?_ | refine dr_val 0 _ rfl (by decide +kernel) rfl rfl (fun w9 hS9 => val_load1 hT rfl rfl rfl (Blk.cell hS9.2 (by rfl))) hS ?_ | refine dr_yes 0 rfl (by decide +kernel) rfl rfl rfl rfl rfl (by first | (simp only [cmpP]; omega) | (simp [cmpP]; done) | (simp [cmpP]; omega)) ?_ | refine dr_no 0 rfl (by decide +kernel) rfl rfl rfl rfl rfl rfl (by first | (simp only [cmpP]; omega) | (simp [cmpP]; done) | (simp [cmpP]; omega)) ?_)
    try (first | refine dr_pure 1 hT rfl (by decide +kernel) rfl rfl rfl ?_ | refine dr_not 1 rfl (by decide +kernel) rfl rfl ?_ | refine dr_val 1 _ rfl (by decide +kernel) rfl rfl (fun w9 hS9 => val_load1 hT rfl rfl rfl (Blk.cell hS9.2 (by rfl))) hS ?_ | refine dr_yes 1 rfl (by decide +kernel) rfl rfl rfl rfl rfl (by first | (simp only [cmpP]; omega) | (simp [cmpP]; done) | (simp [cmpP]; omega)) ?_ | refine dr_no 1 rfl (by decide +kernel) rfl rfl rfl rfl rfl rfl (by first | (simp only [cmpP]; omega) | (simp [cmpP]; done) | (simp [cmpP]; omega)) ?_)
    try (first | refine dr_pure 2 hT rfl (by decide +kernel) rfl rfl rfl ?_ | refine dr_not 2 rfl (by decide +kernel) rfl rfl ?_ | refine dr_val 2 _ rfl (by decide +kernel) rfl rfl (fun w9 hS9 => val_load1 hT rfl rfl rfl (Blk.cell hS9.2 (by rfl))) hS ?_ | refine dr_yes 2 rfl (by decide +kernel) rfl rfl rfl rfl rfl (by first | (simp only [cmpP]; omega) | (simp [cmpP]; done) | (simp [cmpP]; omega)) ?_ | refine dr_no 2 rfl (by decide +kernel) rfl rfl rfl rfl rfl rfl (by first | (simp only [cmpP]; omega) | (simp [cmpP]; done) | (simp [cmpP]; omega)) ?_)
    try (first | refine dr_pure 3 hT rfl (by decide +kernel) rfl rfl rfl ?_ | refine dr_not 3 rfl (by decide +kernel) rfl rfl ?_ | refine dr_val 3 _ rfl (by decide +kernel) rfl rfl (fun w9 hS9 => val_load1 hT rfl rfl rfl (Blk.cell hS9.2 (by rfl))) hS ?_ | refine dr_yes 3 rfl (by decide +kernel) rfl rfl rfl rfl rfl (by first | (simp only [cmpP]; omega) | (simp [cmpP]; done) | (simp [cmpP]; omega)) ?_ | refine dr_no 3 rfl (by decide +kernel) rfl rfl rfl rfl rfl rfl (by first | (simp only [cmpP]; omega) | (simp [cmpP]; done) | (simp [cmpP]; omega)) ?_)
    refine dr_num 4 (((deep + 1 : Nat) : Int)) rfl (by decide +kernel) rfl rfl rfl rfl rfl (by simp only [ariP]; omega) ?_
    have h7d := h7.keep0 hkd
    refine dr_opE 5 Tryd.func83 rfl (by decide +kernel) rfl rfl (opE_call (fst := []) (cap := []) rfl rfl rfl rfl (by decide +kernel) (End.mono (ih (f - 1) (by omega) (deep + 1) j (by omega) h7d) ?_ ?_))
    rotate_left
    · rintro v w5 ⟨e, hX, r⟩
      exact ⟨e, by rw [hT8, hX]; rfl, r⟩
    rintro r w10 ⟨⟨t, j'⟩, hX, ⟨cs, F', rfl, he2, he3⟩, h10, hk10⟩
    rw [hX] at hT8
    have hT9 : TOT = bnd (manyP one (parts - (k + 1)) j') (fun (r, j) => rest4 ts fin kk n v ((l ++ [t]) ++ r) j) := hT8
    have hz10 := hk10.blk hz9 (by simp; omega)
    have hy10 := hk10.blk (hkd.blk hy7 (by simp)) (by simp; omega)
    have hrow10 := (hrow.keep hkd (by simp)).keep hk10 (by simp; omega)
    have hk010 := (hk07.tr0 hkd).tr hk10
    refine ⟨fun _ => ⟨trivial, hz10⟩, ?_⟩
    have hcs1 := he2.one
    obtain ⟨c0, c1, c2, c3, rfl⟩ := list4 he2.length
    refine dr_op 6 rfl (by decide +kernel) rfl rfl (opTo_sliceN _ _ rfl rfl (slice_one c0 c1 c2 c3) ?_)
    intro w11 g11 hg11 hs11 hk11 hb11
    have hz11 := hk11.blk hz10 (by simp)
    have hy11 := hk11.blk hy10 (by simp)
    have h11 := h10.keep0 hk11
    have hrow11 := hrow10.keep hk11 (by simp)
    have hk011 := hk010.tr0 hk11
    refine ⟨fun _ => ⟨trivial, hz11⟩, ?_⟩
    obtain ⟨xs, hown11⟩ := hrow11.own
    have hB11 : B ≤ w11.heap.size := by have := hk10.size; have := hk11.size; have : w7.drew.heap.size = w7.heap.size := rfl; omega
    refine dr_op 7 rfl (by decide +kernel) rfl rfl (opTo_app B 50 4 48 xs [c0, c1, c2, c3] rfl rfl rfl (by decide +kernel) hown11 (hb11.range (by rfl)) rfl hcs1 (by decide) (by simp only [maxLen]; omega) (by omega) hB11 ?_)
    intro g12 cap12 w12 hown12 hor12
    have hk012 : Keep [b] w w12 := by
      rcases hor12 with ⟨h1, _, h2⟩ | ⟨_, h2, _⟩
      · exact hk011.trB h2 (by have := (hown11.lt g12 h1).1; omega)
      · exact hk011.tr0 h2
    have hne : ∀ c, c < B → sl.ownBlock ≠ some c := fun c hc e => by have := (hown11.lt c e).1; omega
    have hz12 := app_blk hz11 (fun k hk e => hne b5 hB5 (e ▸ hk)) hor12
    have hy12 := app_blk hy11 (fun k hk e => hne b4 hB4 (e ▸ hk)) hor12
    have h12 := h11.app hown11 (by omega) (by decide) hor12
    refine ⟨fun _ => ⟨trivial, hz12⟩, ?_⟩
    refine dr_pure 8 hT rfl (by decide +kernel) rfl rfl rfl ?_
    refine dr_op 9 rfl (by decide +kernel) rfl rfl (opTo_storeN [.slice (some ⟨g12, 0, none⟩) (l.length + 1) cap12] rfl rfl rfl rfl size_exprs hz12 (by simp [xC]) (by simp; rfl) ?_)
    intro w13 hs13 hk13 hz13
    have hsp : splice (xC (kk : Nat) (v : Nat) n sl) 3 [.slice (some ⟨g12, 0, none⟩) (l.length + 1) cap12] = xC (kk : Nat) (v : Nat) n (.slice (some ⟨g12, 0, none⟩) (l.length + 1) cap12) := rfl
    rw [hsp] at hz13
    refine ⟨fun h => absurd (by simp) h, ?_⟩
    refine dr_done (by decide +kernel) ?_
    have hw12 : w11.heap.size ≤ w12.heap.size := by
      rcases hor12 with ⟨_, _, h2⟩ | ⟨_, h2, _⟩
      · exact h2.size
      · exact h2.size
    have hy13 := hk13.blk hy12 (by simp; omega)
    have hk013 : Keep [b] w w13 := hk012.trB hk13 (by omega)
    have hB13 : B ≤ w13.heap.size := by have := hk13.size; omega
    have h13 := h12.put hz12 hw0B hk13 (by decide)
    (repeat (first | refine pl_pure hT rfl rfl rfl ?_ | refine pl_nil ?_ | refine rn_seq ?_ | refine rn_plain ?_ | refine rn_block ?_ | refine rn_inBlock ?_ | refine rn_skip ?_ | refine rn_true rfl ?_ | refine rn_false rfl ?_ | refine rn_exit rfl ?_ | refine pl_not rfl rfl ?_))
    refine pl_num (((k + 1 : Nat) : Int)) rfl rfl rfl rfl rfl (by simp only [ariP]; omega) ?_
    (repeat (first | refine pl_pure hT rfl rfl rfl ?_ | refine pl_nil ?_ | refine rn_seq ?_ | refine rn_plain ?_ | refine rn_block ?_ | refine rn_inBlock ?_ | refine rn_skip ?_ | refine rn_true rfl ?_ | refine rn_false rfl ?_ | refine rn_exit rfl ?_ | refine pl_not rfl rfl ?_))
    have hrow12 : RowE w12 B (.slice (some ⟨g12, 0, none⟩) (l.length + 1) cap12) (l ++ [t]) := by
      refine hrow11.app (he2.keep hk11 (fun c hc' => ⟨(he3 c hc').2, by simp⟩)) (fun c hc' => ?_) (fun ys hys => ?_) hor12
      · have h3 := he3 c hc'
        have hsz : w7.drew.heap.size = w7.heap.size := rfl
        refine ⟨by omega, by have := hk11.size; omega, fun e' => ?_⟩
        have := (hrow.keep hkd (by simp)).own
        obtain ⟨zs, hz⟩ := this
        have := (hz.lt c e').2
        omega
      · have : ys = xs := hys.eq hown11
        subst this
        exact hown12
    have hrow13 := hrow12.keep hk13 (by simp; omega)
    refine rn_sub ?_ (ih2 _ _ _ ?_ ⟨k + 1, j', l ++ [t], .slice (some ⟨g12, 0, none⟩) (l.length + 1) cap12, by omega, rfl, rfl, rfl, hT9, by simp [hlk], hrow13, h13, hz13, hy13, hk013, hB13⟩)
    · exact ⟨rfl, rfl, rfl, rfl, rfl, rfl, trivial⟩
    · omega
  · refine pl_no rfl rfl rfl rfl rfl rfl (by first | (simp only [cmpP]; omega) | (simp [cmpP]; done) | (simp [cmpP]; omega)) ?_
    (repeat (first | refine pl_pure hT rfl rfl rfl ?_ | refine pl_nil ?_ | refine rn_seq ?_ | refine rn_plain ?_ | refine rn_block ?_ | refine rn_inBlock ?_ | refine rn_skip ?_ | refine rn_true rfl ?_ | refine rn_false rfl ?_ | refine rn_exit rfl ?_ | refine pl_not rfl rfl ?_))
    have hT8 : TOT = bnd (mustP ts fin [41] j) fun i5 => .ok (.mk (kk : Nat) (v : Nat) n l, i5) := by
      rw [hT7, show parts - k = 0 by omega]
      show rest4 ts fin kk n v (l ++ []) j = _
      rw [List.append_nil]
      rfl
    refine pl_opE Tryd.func83 rfl rfl (opE_call (fst := []) (cap := []) rfl rfl rfl rfl (by decide +kernel) (End.mono (text_end hct h7 [41] (by decide)) ?_ ?_))
    rotate_left
    · rintro v w5 ⟨e, hX, r⟩
      exact ⟨e, by rw [hT8, hX]; rfl, r⟩
    rintro r w8 ⟨j', hX, h8, hk8⟩
    rw [hX] at hT8
    have hz8 := hk8.blk hz7 (by simp; omega)
    have hy8 := hk8.blk hy7 (by simp; omega)
    (repeat (first | refine pl_pure hT rfl rfl rfl ?_ | refine pl_nil ?_ | refine rn_seq ?_ | refine rn_plain ?_ | refine rn_block ?_ | refine rn_inBlock ?_ | refine rn_skip ?_ | refine rn_true rfl ?_ | refine rn_false rfl ?_ | refine rn_exit rfl ?_ | refine pl_not rfl rfl ?_))
    refine pl_val _ rfl rfl (val_load (xC (kk : Nat) (v : Nat) n sl) hT rfl rfl rfl (hz8.range (by rfl))) ?_
    refine pl_op rfl rfl (opTo_storeN (xC (kk : Nat) (v : Nat) n sl) rfl rfl rfl rfl size_expr hy8 (by simp [xC]) (xC_one hsl) ?_)
    intro w9 hs9 hk9 hy9
    rw [splice_whole (by rfl)] at hy9
    (repeat (first | refine pl_pure hT rfl rfl rfl ?_ | refine pl_nil ?_ | refine rn_seq ?_ | refine rn_plain ?_ | refine rn_block ?_ | refine rn_inBlock ?_ | refine rn_skip ?_ | refine rn_true rfl ?_ | refine rn_false rfl ?_ | refine rn_exit rfl ?_ | refine pl_not rfl rfl ?_))
    have hw0B4 : w0.heap.size ≤ b4 := by have := h.kp.size; omega
    have h9 := h8.put hy8 hw0B4 hk9 (by decide)
    have hk09 : Keep [b] w w9 := (hk07.tr hk8).trB hk9 (by omega)
    obtain ⟨F, hF1, hF2⟩ := ((hrow.keep hk8 (by simp; omega)).keep hk9 (by simp; omega)).exprs
    exact rn_ret Tryd.func83 (.inr (.inr (.inl ⟨_, _, _, rfl, rfl, blk_loadVar hT hy9 rfl⟩))) ⟨(.mk (kk : Nat) (v : Nat) n l, j'), hT8, ⟨xC (kk : Nat) (v : Nat) n sl, F, rfl, ExprV.of hF1, fun c hc' => by have := hF2 c hc'; omega⟩, h9, hk09⟩
end
end E
end Go.Proofs.YthbkcadiejfgaacDoor
