/- Contracts of slices.EqualFunc, and of 'all': those that wait are held against each other, until none waits. -/
import Derived.Test.YtpbdjpoohpocfabSaC
namespace Go.Proofs.Ytpbdjpoohpocfab
set_option maxRecDepth 20000
set_option maxHeartbeats 4000000
namespace E
open Go.Proofs

theorem Own.cutTo {w : World} {B e size n : Nat} {v : Value} {xs : List Value} (h : Own w B e size v n xs) {m : Nat} (hm : m ≤ n) {a : Option Addr} {cap : Nat} (hv : v = .slice a n cap) : Own w B e size (.slice a m cap) m (xs.take (m * size)) := by
  refine ⟨?_, ?_⟩
  · rw [List.length_take, h.1, Nat.min_eq_left (Nat.mul_le_mul_right _ hm)]
  · rcases h.2 with ⟨h1, h2⟩ | ⟨g, c, cur, h1, hb, hg, hc, hl, ht⟩
    · rw [h1] at hv
      injection hv with e1 e2 e3
      subst e1
      subst e3
      have : m = 0 := by omega
      subst this
      exact .inl ⟨rfl, rfl⟩
    · rw [h1] at hv
      injection hv with e1 e2 e3
      subst e1
      subst e3
      refine .inr ⟨g, c, cur, rfl, hb, hg, by omega, hl, ?_⟩
      rw [← ht, List.take_take, Nat.min_eq_left (Nat.mul_le_mul_right _ hm)]

theorem eqEs_append : ∀ {a c b d : List ET}, a.length = c.length → eqEs (a ++ b) (c ++ d) = (eqEs a c && eqEs b d)
  | [], [], _, _, _ => by simp [eqEs]
  | x :: r, y :: s, b, d, h => by
    have := eqEs_append (a := r) (c := s) (b := b) (d := d) (by simpa using h)
    simp only [List.cons_append, eqEs, this, Bool.and_assoc]
  | [], _ :: _, _, _, h => by simp at h
  | _ :: _, [], _, _, h => by simp at h
theorem eqEs_take {a b : List ET} (h : a.length = b.length) {i : Nat} {x y : ET} (hx : a[i]? = some x) (hy : b[i]? = some y) : eqEs (a.take (i + 1)) (b.take (i + 1)) = (eqEs (a.take i) (b.take i) && eqE x y) := by
  obtain ⟨h1, e1⟩ := List.getElem?_eq_some_iff.1 hx
  obtain ⟨h2, e2⟩ := List.getElem?_eq_some_iff.1 hy
  rw [List.take_succ_eq_append_getElem h1, List.take_succ_eq_append_getElem h2, eqEs_append (by simp; omega), e1, e2]
  simp [eqEs]
theorem eqEs_split {a b : List ET} (h : a.length = b.length) {i : Nat} {x y : ET} (hx : a[i]? = some x) (hy : b[i]? = some y) : eqEs a b = ((eqEs (a.take i) (b.take i) && eqE x y) && eqEs (a.drop (i + 1)) (b.drop (i + 1))) := by
  rw [← eqEs_take h hx hy, ← eqEs_append (by simp; omega), List.take_append_drop, List.take_append_drop]

theorem eqSs_append : ∀ {a c b d : List ST}, a.length = c.length → eqSs (a ++ b) (c ++ d) = (eqSs a c && eqSs b d)
  | [], [], _, _, _ => by simp [eqSs]
  | x :: r, y :: s, b, d, h => by
    have := eqSs_append (a := r) (c := s) (b := b) (d := d) (by simpa using h)
    simp only [List.cons_append, eqSs, this, Bool.and_assoc]
  | [], _ :: _, _, _, h => by simp at h
  | _ :: _, [], _, _, h => by simp at h
theorem eqSs_take {a b : List ST} (h : a.length = b.length) {i : Nat} {x y : ST} (hx : a[i]? = some x) (hy : b[i]? = some y) : eqSs (a.take (i + 1)) (b.take (i + 1)) = (eqSs (a.take i) (b.take i) && eqS x y) := by
  obtain ⟨h1, e1⟩ := List.getElem?_eq_some_iff.1 hx
  obtain ⟨h2, e2⟩ := List.getElem?_eq_some_iff.1 hy
  rw [List.take_succ_eq_append_getElem h1, List.take_succ_eq_append_getElem h2, eqSs_append (by simp; omega), e1, e2]
  simp [eqSs]
theorem eqSs_split {a b : List ST} (h : a.length = b.length) {i : Nat} {x y : ST} (hx : a[i]? = some x) (hy : b[i]? = some y) : eqSs a b = ((eqSs (a.take i) (b.take i) && eqS x y) && eqSs (a.drop (i + 1)) (b.drop (i + 1))) := by
  rw [← eqSs_take h hx hy, ← eqSs_append (by simp; omega), List.take_append_drop, List.take_append_drop]

theorem cEs_succ (b : Nat) {l : List AE} {i : Nat} {t : AE} (h : l[i]? = some t) : cEs b (l.take (i + 1)) = cEs b (l.take i) + cE b t := by
  obtain ⟨hlt, e⟩ := List.getElem?_eq_some_iff.1 h
  rw [List.take_succ_eq_append_getElem hlt, cEs_append, e]
  simp [cEs]
theorem cEs_split (b : Nat) {l : List AE} {i : Nat} {t : AE} (h : l[i]? = some t) : cEs b (l.take i) + cE b t ≤ cEs b l := by
  rw [← cEs_succ b h]
  have e : cEs b l = cEs b (l.take (i + 1)) + cEs b (l.drop (i + 1)) := by rw [← cEs_append, List.take_append_drop]
  omega

theorem xSs_succ (b : Nat) {l : List AS} {i : Nat} {t : AS} (h : l[i]? = some t) : xSs b (l.take (i + 1)) = xSs b (l.take i) + xS b t := by
  obtain ⟨hlt, e⟩ := List.getElem?_eq_some_iff.1 h
  rw [List.take_succ_eq_append_getElem hlt, xSs_append, e]
  simp [xSs]
theorem xSs_split (b : Nat) {l : List AS} {i : Nat} {t : AS} (h : l[i]? = some t) : xSs b (l.take i) + xS b t ≤ xSs b l := by
  rw [← xSs_succ b h]
  have e : xSs b l = xSs b (l.take (i + 1)) + xSs b (l.drop (i + 1)) := by rw [← xSs_append, List.take_append_drop]
  omega

theorem sSs_succ (b : Nat) {l : List AS} {i : Nat} {t : AS} (h : l[i]? = some t) : sSs b (l.take (i + 1)) = sSs b (l.take i) + sS b t := by
  obtain ⟨hlt, e⟩ := List.getElem?_eq_some_iff.1 h
  rw [List.take_succ_eq_append_getElem hlt, sSs_append, e]
  simp [sSs]
theorem sSs_split (b : Nat) {l : List AS} {i : Nat} {t : AS} (h : l[i]? = some t) : sSs b (l.take i) + sS b t ≤ sSs b l := by
  rw [← sSs_succ b h]
  have e : sSs b l = sSs b (l.take (i + 1)) + sSs b (l.drop (i + 1)) := by rw [← sSs_append, List.take_append_drop]
  omega
theorem zero_twinsE : ((Try.prog.info? 174).bind (·.zero)).map (·.cells) = some [Value.slice none 0 0, .slice none 0 0].toArray := by kernel_rfl
theorem zero_twinsS : ((Try.prog.info? 180).bind (·.zero)).map (·.cells) = some [Value.slice none 0 0, .slice none 0 0].toArray := by kernel_rfl

section
variable {F : Nat → Prop} {w0 w : World} {xs ms xe me : Nat} {Ms Me : List Nat} {Ps : List PS} {Pe : List PE}

theorem eqFuncE_ret (h : Both F w0 w xs ms xe me Ms Me Ps Pe) (hF : In F w0) (p : PE) (hv : ValidE F w0 p) (hc : ∀ b, Me.count b + cEs b p.la ≤ 1) (hz : mE Pe + mS Ps + szEs (erEs p.la) ≤ 100000) :
    Ret Try.prog 101 [p.xa, p.xb, cl1 xe] w (Out false F w0 xs ms xe me Ms Me Ps Pe p.ok (fun b => cEs b p.la) (fun _ => 0) (szEs (erEs p.la)) w) := by
  obtain ⟨ga, la, xa, xb, lb⟩ := p
  obtain ⟨ha, hb, hlen, hpos⟩ := hv
  simp only at ha hb hlen hpos hc  hz ⊢
  unfold PE.ok
  simp only
  obtain ⟨a, ca, rfl⟩ := ha.form
  obtain ⟨b, cb, rfl⟩ := hb.form
  have hl1 := szEs_len (erEs la)
  rw [erEs_length] at hl1
  refine ret_of 32 Try.func101 rfl rfl (by simp) ?_
  (repeat (first | refine pl_pure hT rfl rfl rfl ?_ | refine pl_nil ?_ | refine rn_seq ?_ | refine rn_plain ?_ | refine rn_block ?_ | refine rn_inBlock ?_ | refine rn_skip ?_ | refine rn_true rfl ?_ | refine rn_false rfl ?_ | refine rn_exit rfl ?_ | refine pl_not rfl rfl ?_))
  refine pl_no rfl rfl rfl rfl rfl rfl (by first | (simp only [cmpP]; omega) | (simp [cmpP]; done) | (simp [cmpP]; omega)) ?_
  (repeat (first | refine pl_pure hT rfl rfl rfl ?_ | refine pl_nil ?_ | refine rn_seq ?_ | refine rn_plain ?_ | refine rn_block ?_ | refine rn_inBlock ?_ | refine rn_skip ?_ | refine rn_true rfl ?_ | refine rn_false rfl ?_ | refine rn_exit rfl ?_ | refine pl_not rfl rfl ?_))
  refine rn_ind (fun m σ w' => ∃ (i : Nat) (Ms' Me' : List Nat) (Ns : List PS) (Ne : List PE), i ≤ la.length ∧ m = la.length - i ∧ σ = [(1, .slice b lb.length cb), (2, cl1 xe), (15, .slice a la.length ca), (16, .int .i64 (la.length : Nat)), (17, .int .i64 (i : Nat))] ∧
    Both F w0 w' xs ms xe me Ms' Me' (Ps ++ Ns) (Pe ++ Ne) ∧ eqEs ((erEs la).take i) (lb.take i) = (Ns.all PS.ok && Ne.all PE.ok) ∧ (∀ b, Me'.count b + sumE b Ne + sumX b Ns = Me.count b + cEs b (la.take i)) ∧ (∀ b, Ms'.count b + sumS b Ns = Ms.count b + 0) ∧
    mE Ne + mS Ns + i ≤ szEs ((erEs la).take i) ∧ (false = false → Ns = []) ∧ TwA w0 xs ms xe me w w') la.length _ ?_ ⟨0, Ms, Me, [], [], by omega, by omega, rfl, by simpa using h, by simp [eqEs], fun b => by simp [sumE, sumX, cEs], fun b => by simp [sumS], by simp [mE, mS], fun _ => rfl, TwA.of (Keep.refl _ _)⟩ ?_
  · exact ⟨rfl, rfl, rfl, rfl, rfl, trivial⟩
  rintro m σ w2 ih ⟨i, Ms2, Me2, Ns2, Ne2, hi, rfl, rfl, hB2, hg2, hcx2, hcs2, hz2, hn2, ht2⟩
  have hle := szEs_take (erEs la) i
  (repeat (first | refine pl_pure hT rfl rfl rfl ?_ | refine pl_nil ?_ | refine rn_seq ?_ | refine rn_plain ?_ | refine rn_block ?_ | refine rn_inBlock ?_ | refine rn_skip ?_ | refine rn_true rfl ?_ | refine rn_false rfl ?_ | refine rn_exit rfl ?_ | refine pl_not rfl rfl ?_))
  by_cases hlt : i < la.length
  · refine pl_yes rfl rfl rfl rfl rfl (by first | (simp only [cmpP]; omega) | (simp [cmpP]; done) | (simp [cmpP]; omega)) ?_
    (repeat (first | refine pl_pure hT rfl rfl rfl ?_ | refine pl_nil ?_ | refine rn_seq ?_ | refine rn_plain ?_ | refine rn_block ?_ | refine rn_inBlock ?_ | refine rn_skip ?_ | refine rn_true rfl ?_ | refine rn_false rfl ?_ | refine rn_exit rfl ?_ | refine pl_not rfl rfl ?_))
    have hget : la[i]? = some la[i] := List.getElem?_eq_getElem hlt
    have hgetb : lb[i]? = some (lb[i]'(by omega)) := List.getElem?_eq_getElem (by omega)
    have hgete : (erEs la)[i]? = some (erE la[i]) := by rw [erEs_map, List.getElem?_map, hget]; rfl
    obtain ⟨_, ci, hvv, ⟨L, t, hbg⟩, hra, hci⟩ := ha.at hget
    cases hvv
    obtain ⟨bb, q, _, cj, hvv, hFb, hrb, hcj⟩ := hb.at hgetb
    cases hvv
    have hra2 := range_keep hra hB2.kp hbg.lt (by simp)
    have hrb2 := range_keep hrb hB2.kp (hF bb hFb) (by simp)
    refine pl_val _ rfl rfl (val_index i hT rfl rfl rfl rfl rfl hlt w2) ?_
    refine pl_val (.agg ci.toArray) rfl rfl (val_load ci hT rfl rfl (by rw [hci.length]; rfl) hra2) ?_
    refine pl_op rfl rfl (opTo_allocN _ rfl zero_expr ?_)
    intro w3 c3 hc3 hs3 hk3 hC3
    (repeat (first | refine pl_pure hT rfl rfl rfl ?_ | refine pl_nil ?_ | refine rn_seq ?_ | refine rn_plain ?_ | refine rn_block ?_ | refine rn_inBlock ?_ | refine rn_skip ?_ | refine rn_true rfl ?_ | refine rn_false rfl ?_ | refine rn_exit rfl ?_ | refine pl_not rfl rfl ?_))
    refine pl_op rfl rfl (opTo_storeN ci rfl rfl rfl rfl (by rw [hci.length]; decide +kernel) hC3 (by rw [hci.length]; decide) hci.plain.one ?_)
    intro w4 hs4 hk4 hC4
    rw [splice_whole (by rw [hci.length]; rfl)] at hC4
    have hk24 : Keep [] w2 w4 := hk3.trB hk4 (by omega)
    have hrb4 := range_keep hrb2 hk24 (by have := hF bb hFb; have := hB2.kp.size; omega) (by simp)
    (repeat (first | refine pl_pure hT rfl rfl rfl ?_ | refine pl_nil ?_ | refine rn_seq ?_ | refine rn_plain ?_ | refine rn_block ?_ | refine rn_inBlock ?_ | refine rn_skip ?_ | refine rn_true rfl ?_ | refine rn_false rfl ?_ | refine rn_exit rfl ?_ | refine pl_not rfl rfl ?_))
    refine pl_val _ rfl rfl (val_index i hT rfl rfl rfl rfl rfl (by omega) w4) ?_
    refine pl_val (.agg cj.toArray) rfl rfl (val_load cj hT rfl rfl (by rw [hcj.length]; rfl) hrb4) ?_
    refine pl_op rfl rfl (opTo_allocN _ rfl zero_expr ?_)
    intro w5 c5 hc5 hs5 hk5 hC5
    refine pl_op rfl rfl (opTo_storeN cj rfl rfl rfl rfl (by rw [hcj.length]; decide +kernel) hC5 (by rw [hcj.length]; decide) hcj.one ?_)
    intro w6 hs6 hk6 hC6
    rw [splice_whole (by rw [hcj.length]; rfl)] at hC6
    have hk46 : Keep [] w4 w6 := hk5.trB hk6 (by omega)
    have hC46 := hk46.blk hC4 (by simp)
    have hk26 := hk24.tr hk46
    (repeat (first | refine pl_pure hT rfl rfl rfl ?_ | refine pl_nil ?_ | refine rn_seq ?_ | refine rn_plain ?_ | refine rn_block ?_ | refine rn_inBlock ?_ | refine rn_skip ?_ | refine rn_true rfl ?_ | refine rn_false rfl ?_ | refine rn_exit rfl ?_ | refine pl_not rfl rfl ?_))
    refine pl_val (.agg ci.toArray) rfl rfl (val_load ci hT rfl rfl (by rw [hci.length]; rfl) (hC46.range (by simp))) ?_
    refine pl_val (.agg cj.toArray) rfl rfl (val_load cj hT rfl rfl (by rw [hcj.length]; rfl) (hC6.range (by simp))) ?_
    have hat := fun b => cEs_split b hget
    skip
    have hsu := szEs_succ hgete
    have hle2 := szEs_take (erEs la) (i + 1)
    refine pl_op rfl rfl (opTo_call (fst := []) (cap := [.pointer (some ⟨xe, 0, none⟩)]) rfl rfl rfl rfl (by decide +kernel) ((sameE_ret (hB2.keep hk26) hci hcj (fun b => by have := hc b; have := hcx2 b; have := hat b; omega) (by rw [mE_append, mS_append]; omega)).mono ?_))
    intro r w7 hO7
    have hP7 := Out.after (Tw.trans ht2 (TwA.of hk26)) hg2 hcx2 hcs2 (s1 := szEs ((erEs la).take i) - i) (by omega) hn2 hO7
    obtain ⟨res, rfl, _⟩ := hO7
    obtain ⟨res', hres, ht7, hf7, htr7⟩ := hP7
    cases hres
    have hsplit := eqEs_split (a := erEs la) (b := lb) (by rw [erEs_length]; exact hlen) hgete hgetb
    have htake := eqEs_take (a := erEs la) (b := lb) (by rw [erEs_length]; exact hlen) hgete hgetb
    cases res with
    | false =>
      (repeat (first | refine pl_pure hT rfl rfl rfl ?_ | refine pl_nil ?_ | refine rn_seq ?_ | refine rn_plain ?_ | refine rn_block ?_ | refine rn_inBlock ?_ | refine rn_skip ?_ | refine rn_true rfl ?_ | refine rn_false rfl ?_ | refine rn_exit rfl ?_ | refine pl_not rfl rfl ?_))
      refine rn_ret Try.func101 (.inl ⟨_, rfl, rfl⟩) (Out.no ht7 ?_)
      rw [hsplit, hf7 rfl]
      rfl
    | true =>
      obtain ⟨Ms7, Me7, Ns7, Ne7, hB7, hg7, hcx7, hcs7, hz7, hn7⟩ := htr7 rfl
      simp only at hcx7 hcs7
      (repeat (first | refine pl_pure hT rfl rfl rfl ?_ | refine pl_nil ?_ | refine rn_seq ?_ | refine rn_plain ?_ | refine rn_block ?_ | refine rn_inBlock ?_ | refine rn_skip ?_ | refine rn_true rfl ?_ | refine rn_false rfl ?_ | refine rn_exit rfl ?_ | refine pl_not rfl rfl ?_))
      refine pl_num (((i + 1 : Nat) : Int)) rfl rfl rfl rfl rfl (by simp only [ariP]; omega) ?_
      (repeat (first | refine pl_pure hT rfl rfl rfl ?_ | refine pl_nil ?_ | refine rn_seq ?_ | refine rn_plain ?_ | refine rn_block ?_ | refine rn_inBlock ?_ | refine rn_skip ?_ | refine rn_true rfl ?_ | refine rn_false rfl ?_ | refine rn_exit rfl ?_ | refine pl_not rfl rfl ?_))
      refine rn_sub ?_ (ih (la.length - (i + 1)) [(1, .slice (some ⟨bb, q, none⟩) lb.length cb), (2, cl1 xe), (15, .slice (some ⟨ga, 0, none⟩) la.length ca), (16, .int .i64 (la.length : Nat)), (17, .int .i64 ((i + 1 : Nat) : Int))] w7 (by omega)
        ⟨i + 1, Ms7, Me7, _, _, by omega, rfl, rfl, hB7, by rw [htake]; exact hg7, fun b => by have := hcx7 b; have := cEs_succ b hget; omega, fun b => by have := hcs7 b; omega, by omega, hn7, ht7⟩)
      exact ⟨rfl, rfl, rfl, rfl, rfl, trivial⟩
  · refine pl_no rfl rfl rfl rfl rfl rfl (by first | (simp only [cmpP]; omega) | (simp [cmpP]; done) | (simp [cmpP]; omega)) ?_
    (repeat (first | refine pl_pure hT rfl rfl rfl ?_ | refine pl_nil ?_ | refine rn_seq ?_ | refine rn_plain ?_ | refine rn_block ?_ | refine rn_inBlock ?_ | refine rn_skip ?_ | refine rn_true rfl ?_ | refine rn_false rfl ?_ | refine rn_exit rfl ?_ | refine pl_not rfl rfl ?_))
    refine rn_ret Try.func101 (.inl ⟨_, rfl, rfl⟩) ⟨true, rfl, ht2, fun h => (by cases h), fun _ => ⟨Ms2, Me2, Ns2, Ne2, hB2, ?_, fun b => ?_, fun b => ?_, ?_, hn2⟩⟩
    · rw [← hg2, List.take_of_length_le (by rw [erEs_length]; omega), List.take_of_length_le (by omega)]
    · have := hcx2 b
      rw [List.take_of_length_le (by omega)] at this
      exact this
    · have := hcs2 b
      try rw [List.take_of_length_le (by omega)] at this
      exact this
    · have : i = la.length := by omega
      omega

theorem allE_ret (h : Both F w0 w xs ms xe me Ms Me Ps Pe) (hF : In F w0) (hc : ∀ b, Me.count b + sumE b Pe + sumX b Ps ≤ 1) (hcs : ∀ b, Ms.count b + sumS b Ps ≤ 1) (hz : mE Pe + mS Ps ≤ 50000) :
    Ret Try.prog 77 [.pointer (some ⟨xe, 0, none⟩), cl1 xe] w fun r w' => ∃ res : Bool, r = .bool res ∧ TwA w0 xs ms xe me w w' ∧ (res = false → (Ps.all PS.ok && Pe.all PE.ok) = false) ∧
      (res = true → ∃ Ms' Me' Ps' Pe', Both F w0 w' xs ms xe me Ms' Me' Ps' Pe' ∧ Pe' = [] ∧ (false = false → Ps' = Ps) ∧ (Ps.all PS.ok && Pe.all PE.ok) = (Ps'.all PS.ok && Pe'.all PE.ok) ∧ (∀ b, Me'.count b + sumE b Pe' + sumX b Ps' ≤ 1) ∧ (∀ b, Ms'.count b + sumS b Ps' ≤ 1) ∧ mE Pe' + mS Ps' ≤ mE Pe + mS Ps) := by
  refine ret_of 42 Try.func77 rfl rfl (by simp) ?_
  (repeat (first | refine pl_pure hT rfl rfl rfl ?_ | refine pl_nil ?_ | refine rn_seq ?_ | refine rn_plain ?_ | refine rn_block ?_ | refine rn_inBlock ?_ | refine rn_skip ?_ | refine rn_true rfl ?_ | refine rn_false rfl ?_ | refine rn_exit rfl ?_ | refine pl_not rfl rfl ?_))
  refine rn_ind (fun m σ w' => ∃ (Ms' Me' : List Nat) (Ps' : List PS) (Pe' : List PE), m = mE Pe' + mS Ps' ∧ σ = [(0, .pointer (some ⟨xe, 0, none⟩)), (1, cl1 xe)] ∧ Both F w0 w' xs ms xe me Ms' Me' Ps' Pe' ∧ (false = false → Ps' = Ps) ∧ (Ps.all PS.ok && Pe.all PE.ok) = (Ps'.all PS.ok && Pe'.all PE.ok) ∧
    (∀ b, Me'.count b + sumE b Pe' + sumX b Ps' ≤ 1) ∧ (∀ b, Ms'.count b + sumS b Ps' ≤ 1) ∧ mE Pe' + mS Ps' ≤ mE Pe + mS Ps ∧ TwA w0 xs ms xe me w w') (mE Pe + mS Ps) _ ?_ ⟨Ms, Me, Ps, Pe, rfl, rfl, h, fun _ => rfl, rfl, hc, hcs, Nat.le_refl _, TwA.of (Keep.refl _ _)⟩ ?_
  · exact ⟨rfl, rfl, trivial⟩
  rintro m σ w2 ih ⟨Ms2, Me2, Ps2, Pe2, rfl, rfl, hB2, hk2, hT2, hc2, hcs2, hz2, ht2⟩
  obtain ⟨rv, hX2, hO2⟩ := hB2.e.blk
  obtain ⟨es2, cl2', hm2, hkeys2⟩ := hB2.e.map
  have hlen2 := mE_len hB2.vE
  obtain ⟨ar, capr, rfl⟩ := hO2.form
  simp only [List.length_map] at hX2 hO2
  (repeat (first | refine pl_pure hT rfl rfl rfl ?_ | refine pl_nil ?_ | refine rn_seq ?_ | refine rn_plain ?_ | refine rn_block ?_ | refine rn_inBlock ?_ | refine rn_skip ?_ | refine rn_true rfl ?_ | refine rn_false rfl ?_ | refine rn_exit rfl ?_ | refine pl_not rfl rfl ?_))
  refine pl_val _ rfl rfl (val_load1 hT rfl rfl rfl (hX2.cell rfl)) ?_
  (repeat (first | refine pl_pure hT rfl rfl rfl ?_ | refine pl_nil ?_ | refine rn_seq ?_ | refine rn_plain ?_ | refine rn_block ?_ | refine rn_inBlock ?_ | refine rn_skip ?_ | refine rn_true rfl ?_ | refine rn_false rfl ?_ | refine rn_exit rfl ?_ | refine pl_not rfl rfl ?_))
  rcases List.eq_nil_or_concat Pe2 with h0 | ⟨P0, p, h0⟩
  · have hl0 : Pe2.length = 0 := by rw [h0]; rfl
    refine pl_no rfl rfl rfl rfl rfl rfl (by first | (simp only [cmpP]; omega) | (simp [cmpP]; done) | (simp [cmpP]; omega)) ?_
    (repeat (first | refine pl_pure hT rfl rfl rfl ?_ | refine pl_nil ?_ | refine rn_seq ?_ | refine rn_plain ?_ | refine rn_block ?_ | refine rn_inBlock ?_ | refine rn_skip ?_ | refine rn_true rfl ?_ | refine rn_false rfl ?_ | refine rn_exit rfl ?_ | refine pl_not rfl rfl ?_))
    exact rn_ret Try.func77 (.inl ⟨_, rfl, rfl⟩) ⟨true, rfl, ht2, fun h => (by cases h), fun _ => ⟨Ms2, Me2, Ps2, Pe2, hB2, h0, hk2, hT2, hc2, hcs2, hz2⟩⟩
  · rw [List.concat_eq_append] at h0
    have hl0 : Pe2.length = P0.length + 1 := by rw [h0]; simp
    subst h0
    refine pl_yes rfl rfl rfl rfl rfl (by first | (simp only [cmpP]; omega) | (simp [cmpP]; done) | (simp [cmpP]; omega)) ?_
    (repeat (first | refine pl_pure hT rfl rfl rfl ?_ | refine pl_nil ?_ | refine rn_seq ?_ | refine rn_plain ?_ | refine rn_block ?_ | refine rn_inBlock ?_ | refine rn_skip ?_ | refine rn_true rfl ?_ | refine rn_false rfl ?_ | refine rn_exit rfl ?_ | refine pl_not rfl rfl ?_))
    refine pl_val _ rfl rfl (val_load1 hT rfl rfl rfl (hX2.cell rfl)) ?_
    (repeat (first | refine pl_pure hT rfl rfl rfl ?_ | refine pl_nil ?_ | refine rn_seq ?_ | refine rn_plain ?_ | refine rn_block ?_ | refine rn_inBlock ?_ | refine rn_skip ?_ | refine rn_true rfl ?_ | refine rn_false rfl ?_ | refine rn_exit rfl ?_ | refine pl_not rfl rfl ?_))
    refine pl_num (((P0.length : Nat) : Int)) rfl rfl rfl rfl rfl (by simp only [ariP]; omega) ?_
    (repeat (first | refine pl_pure hT rfl rfl rfl ?_ | refine pl_nil ?_ | refine rn_seq ?_ | refine rn_plain ?_ | refine rn_block ?_ | refine rn_inBlock ?_ | refine rn_skip ?_ | refine rn_true rfl ?_ | refine rn_false rfl ?_ | refine rn_exit rfl ?_ | refine pl_not rfl rfl ?_))
    refine pl_val _ rfl rfl (val_load1 hT rfl rfl rfl (hX2.cell rfl)) ?_
    (repeat (first | refine pl_pure hT rfl rfl rfl ?_ | refine pl_nil ?_ | refine rn_seq ?_ | refine rn_plain ?_ | refine rn_block ?_ | refine rn_inBlock ?_ | refine rn_skip ?_ | refine rn_true rfl ?_ | refine rn_false rfl ?_ | refine rn_exit rfl ?_ | refine pl_not rfl rfl ?_))
    have hflat : (((P0 ++ [p]).map PE.vals).flatMap fun p => [p.1, p.2]) = (P0.map PE.vals).flatMap (fun p => [p.1, p.2]) ++ [p.xa, p.xb] := by simp [PE.vals]
    have hfl0 : ((P0.map PE.vals).flatMap fun p => [p.1, p.2]).length = P0.length * 2 := by
      rw [flat_length (k := 2) (fun p _ => rfl), List.length_map]
    obtain ⟨gr, capr', hvr, hrr⟩ := hO2.range (q := P0.length * 2) (cs := [p.xa, p.xb]) (by rw [hflat, ← hfl0, List.drop_left]; rfl) (by rw [hl0]; omega)
    cases hvr
    have hval := hB2.vE p (by simp)
    obtain ⟨pa, pca, hpa⟩ := hval.a.form
    obtain ⟨pb, pcb, hpb⟩ := hval.b.form
    refine pl_val _ rfl rfl (val_index P0.length hT rfl rfl rfl rfl rfl (by omega) w2) ?_
    refine pl_val _ rfl rfl (val_load [p.xa, p.xb] hT rfl rfl rfl (by rw [Nat.zero_add]; exact hrr)) ?_
    refine pl_op rfl rfl (opTo_allocN _ rfl zero_twinsE ?_)
    intro w3 c hc3 hs3 hk3 hC3
    refine pl_op rfl rfl (opTo_storeN [p.xa, p.xb] rfl rfl rfl rfl (by kernel_rfl) hC3 (by simp) (by rw [hpa, hpb]; intro u hu; simp at hu; rcases hu with rfl | rfl <;> rfl) ?_)
    intro w4 hs4 hk4 hC4
    rw [splice_whole (by rfl)] at hC4
    have hk24 : Keep [] w2 w4 := hk3.trB hk4 (by omega)
    have hX4 := hk24.blk hX2 (by simp)
    (repeat (first | refine pl_pure hT rfl rfl rfl ?_ | refine pl_nil ?_ | refine rn_seq ?_ | refine rn_plain ?_ | refine rn_block ?_ | refine rn_inBlock ?_ | refine rn_skip ?_ | refine rn_true rfl ?_ | refine rn_false rfl ?_ | refine rn_exit rfl ?_ | refine pl_not rfl rfl ?_))
    refine pl_val _ rfl rfl (val_load1 hT rfl rfl rfl (hX4.cell rfl)) ?_
    (repeat (first | refine pl_pure hT rfl rfl rfl ?_ | refine pl_nil ?_ | refine rn_seq ?_ | refine rn_plain ?_ | refine rn_block ?_ | refine rn_inBlock ?_ | refine rn_skip ?_ | refine rn_true rfl ?_ | refine rn_false rfl ?_ | refine rn_exit rfl ?_ | refine pl_not rfl rfl ?_))
    refine pl_val _ rfl rfl (val_sliceTo P0.length hT rfl rfl rfl rfl rfl (by have := hO2.cap_le; simp only [capOf] at this; omega) w4) ?_
    (repeat (first | refine pl_pure hT rfl rfl rfl ?_ | refine pl_nil ?_ | refine rn_seq ?_ | refine rn_plain ?_ | refine rn_block ?_ | refine rn_inBlock ?_ | refine rn_skip ?_ | refine rn_true rfl ?_ | refine rn_false rfl ?_ | refine rn_exit rfl ?_ | refine pl_not rfl rfl ?_))
    refine pl_op rfl rfl (opTo_storeN [.slice (some ⟨gr, 0, none⟩) P0.length capr] rfl rfl rfl rfl (by kernel_rfl) hX4 (by simp) (by simp; rfl) ?_)
    intro w5 hs5 hk5 hX5
    have hB4 := hB2.keep hk24
    have hO4 := hO2.keep hk24 (by simp)
    have hcut := hO4.cutTo (m := P0.length) (by omega) rfl
    rw [hflat, ← hfl0, List.take_left] at hcut
    have hxr : ∀ k, (Value.slice (some ⟨gr, 0, none⟩) P0.length capr).ownBlock = some k → k ∉ [xe] := fun k hk => by
      simp [Value.ownBlock] at hk
      subst hk
      rcases hO4.2 with ⟨h0, _⟩ | ⟨g', cap', cur', h0, _, hb', _⟩
      · cases h0
      · injection h0 with h0; injection h0 with h0; injection h0 with h0; subst h0; simpa using (hb'.ne hX4 (by decide))
    have ht5 : Tw w0.heap.size [xe, me] [tTE] w4 w5 := Tw.of1 hk5 hB2.e.bx (.inl (by simp))
    obtain ⟨es4, cl4, hm4, hkeys4⟩ := hB4.e.map
    have hm5 := (hk5.block me (Array.getElem?_eq_some_iff.1 hm4).1 (by simp; exact fun e => not_map hX4 hm4 e.symm)).trans hm4
    have hst5 : St tPE tTE w5 w0.heap.size xe me Me2 (P0.map PE.vals) := ⟨hB2.e.bx, hB2.e.bm, ⟨_, hX5, by rw [List.length_map]; exact hcut.keep hk5 hxr⟩, ⟨es4, cl4, hm5, hkeys4⟩⟩
    have hB5 := hB4.turnE ht5 hst5 hB2.pE (fun q hq => hB2.vE q (by simp [hq]))
    have hC5 := hk5.blk hC4 (by simpa using hC4.ne hX4 (by decide))
    have htw5 : TwA w0 xs ms xe me w w5 := Tw.trans (Tw.trans ht2 (TwA.of hk24)) (TwA.ofE ht5)
    (repeat (first | refine pl_pure hT rfl rfl rfl ?_ | refine pl_nil ?_ | refine rn_seq ?_ | refine rn_plain ?_ | refine rn_block ?_ | refine rn_inBlock ?_ | refine rn_skip ?_ | refine rn_true rfl ?_ | refine rn_false rfl ?_ | refine rn_exit rfl ?_ | refine pl_not rfl rfl ?_))
    refine pl_val _ rfl rfl (val_load1 hT rfl rfl rfl (hC5.cell rfl)) ?_
    (repeat (first | refine pl_pure hT rfl rfl rfl ?_ | refine pl_nil ?_ | refine rn_seq ?_ | refine rn_plain ?_ | refine rn_block ?_ | refine rn_inBlock ?_ | refine rn_skip ?_ | refine rn_true rfl ?_ | refine rn_false rfl ?_ | refine rn_exit rfl ?_ | refine pl_not rfl rfl ?_))
    refine pl_val _ rfl rfl (val_load1 hT rfl rfl rfl (hC5.cell rfl)) ?_
    (repeat (first | refine pl_pure hT rfl rfl rfl ?_ | refine pl_nil ?_ | refine rn_seq ?_ | refine rn_plain ?_ | refine rn_block ?_ | refine rn_inBlock ?_ | refine rn_skip ?_ | refine rn_true rfl ?_ | refine rn_false rfl ?_ | refine rn_exit rfl ?_ | refine pl_not rfl rfl ?_))
    have hsE := fun b => sumE_append b P0 [p]
    simp only [sumE, Nat.add_zero] at hsE
    have hmA := mE_append P0 [p]
    simp only [mE, Nat.add_zero] at hmA
    refine pl_op rfl rfl (opTo_call rfl rfl rfl rfl (by decide +kernel) ((eqFuncE_ret hB5 hF p hval (fun b => by have := hc2 b; have := hsE b; omega) (by omega)).mono ?_))
    rintro r w6 ⟨res, rfl, ht6, hf6, htr6⟩
    have htw6 := Tw.trans htw5 ht6
    cases res with
    | false =>
      (repeat (first | refine pl_pure hT rfl rfl rfl ?_ | refine pl_nil ?_ | refine rn_seq ?_ | refine rn_plain ?_ | refine rn_block ?_ | refine rn_inBlock ?_ | refine rn_skip ?_ | refine rn_true rfl ?_ | refine rn_false rfl ?_ | refine rn_exit rfl ?_ | refine pl_not rfl rfl ?_))
      refine rn_ret Try.func77 (.inl ⟨_, rfl, rfl⟩) ⟨false, rfl, htw6, fun _ => ?_, fun h => (by cases h)⟩
      rw [hT2, List.all_append]
      simp [hf6 rfl]
    | true =>
      obtain ⟨Ms6, Me6, Ns6, Ne6, hB6, hg6, hcx6, hcs6, hz6, hn6⟩ := htr6 rfl
      simp only at hcx6 hcs6
      (repeat (first | refine pl_pure hT rfl rfl rfl ?_ | refine pl_nil ?_ | refine rn_seq ?_ | refine rn_plain ?_ | refine rn_block ?_ | refine rn_inBlock ?_ | refine rn_skip ?_ | refine rn_true rfl ?_ | refine rn_false rfl ?_ | refine rn_exit rfl ?_ | refine pl_not rfl rfl ?_))
      refine rn_sub ?_ (ih (mE (P0 ++ Ne6) + mS (Ps2 ++ Ns6)) [(0, .pointer (some ⟨xe, 0, none⟩)), (1, cl1 xe)] w6 (by rw [mE_append, mS_append]; omega) ⟨Ms6, Me6, _, _, rfl, rfl, hB6, fun h => by rw [hn6 h, List.append_nil]; exact hk2 h, ?_, fun b => ?_, fun b => ?_, by rw [mE_append, mS_append]; omega, htw6⟩)
      · exact ⟨rfl, rfl, trivial⟩
      · rw [hT2]
        simp only [List.all_append, List.all_cons, List.all_nil, hg6]
        cases Ps2.all PS.ok <;> cases P0.all PE.ok <;> cases Ns6.all PS.ok <;> cases Ne6.all PE.ok <;> rfl
      · have := hc2 b
        have := hcx6 b
        have := hsE b
        rw [sumE_append, sumX_append]
        omega
      · have := hcs2 b
        have := hcs6 b
        skip
        rw [sumS_append]
        omega

theorem eqFuncS_ret (h : Both F w0 w xs ms xe me Ms Me Ps Pe) {bx : Nat} (hx : Blk w bx [cl1 xe] tFE) (hF : In F w0) (p : PS) (hv : ValidS F w0 p) (hc : ∀ b, Me.count b + xSs b p.la ≤ 1) (hcs : ∀ b, Ms.count b + sSs b p.la ≤ 1) (hz : mE Pe + mS Ps + szSs (erSs p.la) ≤ 100000) :
    Ret Try.prog 100 [p.xa, p.xb, cl2 bx xs] w (Out true F w0 xs ms xe me Ms Me Ps Pe p.ok (fun b => xSs b p.la) (fun b => sSs b p.la) (szSs (erSs p.la)) w) := by
  obtain ⟨ga, la, xa, xb, lb⟩ := p
  obtain ⟨ha, hb, hlen, hpos⟩ := hv
  simp only at ha hb hlen hpos hc hcs hz ⊢
  unfold PS.ok
  simp only
  obtain ⟨a, ca, rfl⟩ := ha.form
  obtain ⟨b, cb, rfl⟩ := hb.form
  have hl1 := szSs_len (erSs la)
  rw [erSs_length] at hl1
  refine ret_of 32 Try.func100 rfl rfl (by simp) ?_
  (repeat (first | refine pl_pure hT rfl rfl rfl ?_ | refine pl_nil ?_ | refine rn_seq ?_ | refine rn_plain ?_ | refine rn_block ?_ | refine rn_inBlock ?_ | refine rn_skip ?_ | refine rn_true rfl ?_ | refine rn_false rfl ?_ | refine rn_exit rfl ?_ | refine pl_not rfl rfl ?_))
  refine pl_no rfl rfl rfl rfl rfl rfl (by first | (simp only [cmpP]; omega) | (simp [cmpP]; done) | (simp [cmpP]; omega)) ?_
  (repeat (first | refine pl_pure hT rfl rfl rfl ?_ | refine pl_nil ?_ | refine rn_seq ?_ | refine rn_plain ?_ | refine rn_block ?_ | refine rn_inBlock ?_ | refine rn_skip ?_ | refine rn_true rfl ?_ | refine rn_false rfl ?_ | refine rn_exit rfl ?_ | refine pl_not rfl rfl ?_))
  refine rn_ind (fun m σ w' => ∃ (i : Nat) (Ms' Me' : List Nat) (Ns : List PS) (Ne : List PE), i ≤ la.length ∧ m = la.length - i ∧ σ = [(1, .slice b lb.length cb), (2, cl2 bx xs), (15, .slice a la.length ca), (16, .int .i64 (la.length : Nat)), (17, .int .i64 (i : Nat))] ∧
    Both F w0 w' xs ms xe me Ms' Me' (Ps ++ Ns) (Pe ++ Ne) ∧ eqSs ((erSs la).take i) (lb.take i) = (Ns.all PS.ok && Ne.all PE.ok) ∧ (∀ b, Me'.count b + sumE b Ne + sumX b Ns = Me.count b + xSs b (la.take i)) ∧ (∀ b, Ms'.count b + sumS b Ns = Ms.count b + sSs b (la.take i)) ∧
    mE Ne + mS Ns + i ≤ szSs ((erSs la).take i) ∧ (true = false → Ns = []) ∧ TwA w0 xs ms xe me w w') la.length _ ?_ ⟨0, Ms, Me, [], [], by omega, by omega, rfl, by simpa using h, by simp [eqSs], fun b => by simp [sumE, sumX, xSs], fun b => by simp [sumS, sSs], by simp [mE, mS], fun _ => rfl, TwA.of (Keep.refl _ _)⟩ ?_
  · exact ⟨rfl, rfl, rfl, rfl, rfl, trivial⟩
  rintro m σ w2 ih ⟨i, Ms2, Me2, Ns2, Ne2, hi, rfl, rfl, hB2, hg2, hcx2, hcs2, hz2, hn2, ht2⟩
  have hle := szSs_take (erSs la) i
  (repeat (first | refine pl_pure hT rfl rfl rfl ?_ | refine pl_nil ?_ | refine rn_seq ?_ | refine rn_plain ?_ | refine rn_block ?_ | refine rn_inBlock ?_ | refine rn_skip ?_ | refine rn_true rfl ?_ | refine rn_false rfl ?_ | refine rn_exit rfl ?_ | refine pl_not rfl rfl ?_))
  by_cases hlt : i < la.length
  · refine pl_yes rfl rfl rfl rfl rfl (by first | (simp only [cmpP]; omega) | (simp [cmpP]; done) | (simp [cmpP]; omega)) ?_
    (repeat (first | refine pl_pure hT rfl rfl rfl ?_ | refine pl_nil ?_ | refine rn_seq ?_ | refine rn_plain ?_ | refine rn_block ?_ | refine rn_inBlock ?_ | refine rn_skip ?_ | refine rn_true rfl ?_ | refine rn_false rfl ?_ | refine rn_exit rfl ?_ | refine pl_not rfl rfl ?_))
    have hget : la[i]? = some la[i] := List.getElem?_eq_getElem hlt
    have hgetb : lb[i]? = some (lb[i]'(by omega)) := List.getElem?_eq_getElem (by omega)
    have hgete : (erSs la)[i]? = some (erS la[i]) := by rw [erSs_map, List.getElem?_map, hget]; rfl
    obtain ⟨_, ci, hvv, ⟨L, t, hbg⟩, hra, hci⟩ := ha.at hget
    cases hvv
    obtain ⟨bb, q, _, cj, hvv, hFb, hrb, hcj⟩ := hb.at hgetb
    cases hvv
    have hra2 := range_keep hra hB2.kp hbg.lt (by simp)
    have hrb2 := range_keep hrb hB2.kp (hF bb hFb) (by simp)
    refine pl_val _ rfl rfl (val_index i hT rfl rfl rfl rfl rfl hlt w2) ?_
    refine pl_val (.agg ci.toArray) rfl rfl (val_load ci hT rfl rfl (by rw [hci.length]; rfl) hra2) ?_
    refine pl_op rfl rfl (opTo_allocN _ rfl zero_stmt ?_)
    intro w3 c3 hc3 hs3 hk3 hC3
    (repeat (first | refine pl_pure hT rfl rfl rfl ?_ | refine pl_nil ?_ | refine rn_seq ?_ | refine rn_plain ?_ | refine rn_block ?_ | refine rn_inBlock ?_ | refine rn_skip ?_ | refine rn_true rfl ?_ | refine rn_false rfl ?_ | refine rn_exit rfl ?_ | refine pl_not rfl rfl ?_))
    refine pl_op rfl rfl (opTo_storeN ci rfl rfl rfl rfl (by rw [hci.length]; decide +kernel) hC3 (by rw [hci.length]; decide) hci.plain.one ?_)
    intro w4 hs4 hk4 hC4
    rw [splice_whole (by rw [hci.length]; rfl)] at hC4
    have hk24 : Keep [] w2 w4 := hk3.trB hk4 (by omega)
    have hrb4 := range_keep hrb2 hk24 (by have := hF bb hFb; have := hB2.kp.size; omega) (by simp)
    (repeat (first | refine pl_pure hT rfl rfl rfl ?_ | refine pl_nil ?_ | refine rn_seq ?_ | refine rn_plain ?_ | refine rn_block ?_ | refine rn_inBlock ?_ | refine rn_skip ?_ | refine rn_true rfl ?_ | refine rn_false rfl ?_ | refine rn_exit rfl ?_ | refine pl_not rfl rfl ?_))
    refine pl_val _ rfl rfl (val_index i hT rfl rfl rfl rfl rfl (by omega) w4) ?_
    refine pl_val (.agg cj.toArray) rfl rfl (val_load cj hT rfl rfl (by rw [hcj.length]; rfl) hrb4) ?_
    refine pl_op rfl rfl (opTo_allocN _ rfl zero_stmt ?_)
    intro w5 c5 hc5 hs5 hk5 hC5
    refine pl_op rfl rfl (opTo_storeN cj rfl rfl rfl rfl (by rw [hcj.length]; decide +kernel) hC5 (by rw [hcj.length]; decide) hcj.one ?_)
    intro w6 hs6 hk6 hC6
    rw [splice_whole (by rw [hcj.length]; rfl)] at hC6
    have hk46 : Keep [] w4 w6 := hk5.trB hk6 (by omega)
    have hC46 := hk46.blk hC4 (by simp)
    have hk26 := hk24.tr hk46
    (repeat (first | refine pl_pure hT rfl rfl rfl ?_ | refine pl_nil ?_ | refine rn_seq ?_ | refine rn_plain ?_ | refine rn_block ?_ | refine rn_inBlock ?_ | refine rn_skip ?_ | refine rn_true rfl ?_ | refine rn_false rfl ?_ | refine rn_exit rfl ?_ | refine pl_not rfl rfl ?_))
    refine pl_val (.agg ci.toArray) rfl rfl (val_load ci hT rfl rfl (by rw [hci.length]; rfl) (hC46.range (by simp))) ?_
    refine pl_val (.agg cj.toArray) rfl rfl (val_load cj hT rfl rfl (by rw [hcj.length]; rfl) (hC6.range (by simp))) ?_
    have hat := fun b => xSs_split b hget
    have hatS := fun b => sSs_split b hget
    have hsu := szSs_succ hgete
    have hle2 := szSs_take (erSs la) (i + 1)
    have hx6 := hk26.blk (h.stays ht2 hx (by decide) (by decide) (by decide)) (by simp)
    refine pl_op rfl rfl (opTo_call (fst := []) (cap := [.pointer (some ⟨bx, 0, none⟩), .pointer (some ⟨xs, 0, none⟩)]) rfl rfl rfl rfl (by decide +kernel) ((sameS_ret (hB2.keep hk26) hx6 hci hcj (fun b => by have := hc b; have := hcx2 b; have := hat b; omega) (fun b => by have := hcs b; have := hcs2 b; have := hatS b; omega) (by rw [mE_append, mS_append]; omega)).mono ?_))
    intro r w7 hO7
    have hP7 := Out.after (Tw.trans ht2 (TwA.of hk26)) hg2 hcx2 hcs2 (s1 := szSs ((erSs la).take i) - i) (by omega) hn2 hO7
    obtain ⟨res, rfl, _⟩ := hO7
    obtain ⟨res', hres, ht7, hf7, htr7⟩ := hP7
    cases hres
    have hsplit := eqSs_split (a := erSs la) (b := lb) (by rw [erSs_length]; exact hlen) hgete hgetb
    have htake := eqSs_take (a := erSs la) (b := lb) (by rw [erSs_length]; exact hlen) hgete hgetb
    cases res with
    | false =>
      (repeat (first | refine pl_pure hT rfl rfl rfl ?_ | refine pl_nil ?_ | refine rn_seq ?_ | refine rn_plain ?_ | refine rn_block ?_ | refine rn_inBlock ?_ | refine rn_skip ?_ | refine rn_true rfl ?_ | refine rn_false rfl ?_ | refine rn_exit rfl ?_ | refine pl_not rfl rfl ?_))
      refine rn_ret Try.func100 (.inl ⟨_, rfl, rfl⟩) (Out.no ht7 ?_)
      rw [hsplit, hf7 rfl]
      rfl
    | true =>
      obtain ⟨Ms7, Me7, Ns7, Ne7, hB7, hg7, hcx7, hcs7, hz7, hn7⟩ := htr7 rfl
      simp only at hcx7 hcs7
      (repeat (first | refine pl_pure hT rfl rfl rfl ?_ | refine pl_nil ?_ | refine rn_seq ?_ | refine rn_plain ?_ | refine rn_block ?_ | refine rn_inBlock ?_ | refine rn_skip ?_ | refine rn_true rfl ?_ | refine rn_false rfl ?_ | refine rn_exit rfl ?_ | refine pl_not rfl rfl ?_))
      refine pl_num (((i + 1 : Nat) : Int)) rfl rfl rfl rfl rfl (by simp only [ariP]; omega) ?_
      (repeat (first | refine pl_pure hT rfl rfl rfl ?_ | refine pl_nil ?_ | refine rn_seq ?_ | refine rn_plain ?_ | refine rn_block ?_ | refine rn_inBlock ?_ | refine rn_skip ?_ | refine rn_true rfl ?_ | refine rn_false rfl ?_ | refine rn_exit rfl ?_ | refine pl_not rfl rfl ?_))
      refine rn_sub ?_ (ih (la.length - (i + 1)) [(1, .slice (some ⟨bb, q, none⟩) lb.length cb), (2, cl2 bx xs), (15, .slice (some ⟨ga, 0, none⟩) la.length ca), (16, .int .i64 (la.length : Nat)), (17, .int .i64 ((i + 1 : Nat) : Int))] w7 (by omega)
        ⟨i + 1, Ms7, Me7, _, _, by omega, rfl, rfl, hB7, by rw [htake]; exact hg7, fun b => by have := hcx7 b; have := xSs_succ b hget; omega, fun b => by have := hcs7 b; have := sSs_succ b hget; omega, by omega, hn7, ht7⟩)
      exact ⟨rfl, rfl, rfl, rfl, rfl, trivial⟩
  · refine pl_no rfl rfl rfl rfl rfl rfl (by first | (simp only [cmpP]; omega) | (simp [cmpP]; done) | (simp [cmpP]; omega)) ?_
    (repeat (first | refine pl_pure hT rfl rfl rfl ?_ | refine pl_nil ?_ | refine rn_seq ?_ | refine rn_plain ?_ | refine rn_block ?_ | refine rn_inBlock ?_ | refine rn_skip ?_ | refine rn_true rfl ?_ | refine rn_false rfl ?_ | refine rn_exit rfl ?_ | refine pl_not rfl rfl ?_))
    refine rn_ret Try.func100 (.inl ⟨_, rfl, rfl⟩) ⟨true, rfl, ht2, fun h => (by cases h), fun _ => ⟨Ms2, Me2, Ns2, Ne2, hB2, ?_, fun b => ?_, fun b => ?_, ?_, hn2⟩⟩
    · rw [← hg2, List.take_of_length_le (by rw [erSs_length]; omega), List.take_of_length_le (by omega)]
    · have := hcx2 b
      rw [List.take_of_length_le (by omega)] at this
      exact this
    · have := hcs2 b
      try rw [List.take_of_length_le (by omega)] at this
      exact this
    · have : i = la.length := by omega
      omega

theorem allS_ret (h : Both F w0 w xs ms xe me Ms Me Ps Pe) {bx : Nat} (hx : Blk w bx [cl1 xe] tFE) (hF : In F w0) (hc : ∀ b, Me.count b + sumE b Pe + sumX b Ps ≤ 1) (hcs : ∀ b, Ms.count b + sumS b Ps ≤ 1) (hz : mE Pe + mS Ps ≤ 50000) :
    Ret Try.prog 76 [.pointer (some ⟨xs, 0, none⟩), cl2 bx xs] w fun r w' => ∃ res : Bool, r = .bool res ∧ TwA w0 xs ms xe me w w' ∧ (res = false → (Ps.all PS.ok && Pe.all PE.ok) = false) ∧
      (res = true → ∃ Ms' Me' Ps' Pe', Both F w0 w' xs ms xe me Ms' Me' Ps' Pe' ∧ Ps' = [] ∧ (true = false → Ps' = Ps) ∧ (Ps.all PS.ok && Pe.all PE.ok) = (Ps'.all PS.ok && Pe'.all PE.ok) ∧ (∀ b, Me'.count b + sumE b Pe' + sumX b Ps' ≤ 1) ∧ (∀ b, Ms'.count b + sumS b Ps' ≤ 1) ∧ mE Pe' + mS Ps' ≤ mE Pe + mS Ps) := by
  refine ret_of 42 Try.func76 rfl rfl (by simp) ?_
  (repeat (first | refine pl_pure hT rfl rfl rfl ?_ | refine pl_nil ?_ | refine rn_seq ?_ | refine rn_plain ?_ | refine rn_block ?_ | refine rn_inBlock ?_ | refine rn_skip ?_ | refine rn_true rfl ?_ | refine rn_false rfl ?_ | refine rn_exit rfl ?_ | refine pl_not rfl rfl ?_))
  refine rn_ind (fun m σ w' => ∃ (Ms' Me' : List Nat) (Ps' : List PS) (Pe' : List PE), m = mE Pe' + mS Ps' ∧ σ = [(0, .pointer (some ⟨xs, 0, none⟩)), (1, cl2 bx xs)] ∧ Both F w0 w' xs ms xe me Ms' Me' Ps' Pe' ∧ (true = false → Ps' = Ps) ∧ (Ps.all PS.ok && Pe.all PE.ok) = (Ps'.all PS.ok && Pe'.all PE.ok) ∧
    (∀ b, Me'.count b + sumE b Pe' + sumX b Ps' ≤ 1) ∧ (∀ b, Ms'.count b + sumS b Ps' ≤ 1) ∧ mE Pe' + mS Ps' ≤ mE Pe + mS Ps ∧ TwA w0 xs ms xe me w w') (mE Pe + mS Ps) _ ?_ ⟨Ms, Me, Ps, Pe, rfl, rfl, h, fun _ => rfl, rfl, hc, hcs, Nat.le_refl _, TwA.of (Keep.refl _ _)⟩ ?_
  · exact ⟨rfl, rfl, trivial⟩
  rintro m σ w2 ih ⟨Ms2, Me2, Ps2, Pe2, rfl, rfl, hB2, hk2, hT2, hc2, hcs2, hz2, ht2⟩
  obtain ⟨rv, hX2, hO2⟩ := hB2.s.blk
  obtain ⟨es2, cl2', hm2, hkeys2⟩ := hB2.s.map
  have hlen2 := mS_len hB2.vS
  obtain ⟨ar, capr, rfl⟩ := hO2.form
  simp only [List.length_map] at hX2 hO2
  (repeat (first | refine pl_pure hT rfl rfl rfl ?_ | refine pl_nil ?_ | refine rn_seq ?_ | refine rn_plain ?_ | refine rn_block ?_ | refine rn_inBlock ?_ | refine rn_skip ?_ | refine rn_true rfl ?_ | refine rn_false rfl ?_ | refine rn_exit rfl ?_ | refine pl_not rfl rfl ?_))
  refine pl_val _ rfl rfl (val_load1 hT rfl rfl rfl (hX2.cell rfl)) ?_
  (repeat (first | refine pl_pure hT rfl rfl rfl ?_ | refine pl_nil ?_ | refine rn_seq ?_ | refine rn_plain ?_ | refine rn_block ?_ | refine rn_inBlock ?_ | refine rn_skip ?_ | refine rn_true rfl ?_ | refine rn_false rfl ?_ | refine rn_exit rfl ?_ | refine pl_not rfl rfl ?_))
  rcases List.eq_nil_or_concat Ps2 with h0 | ⟨P0, p, h0⟩
  · have hl0 : Ps2.length = 0 := by rw [h0]; rfl
    refine pl_no rfl rfl rfl rfl rfl rfl (by first | (simp only [cmpP]; omega) | (simp [cmpP]; done) | (simp [cmpP]; omega)) ?_
    (repeat (first | refine pl_pure hT rfl rfl rfl ?_ | refine pl_nil ?_ | refine rn_seq ?_ | refine rn_plain ?_ | refine rn_block ?_ | refine rn_inBlock ?_ | refine rn_skip ?_ | refine rn_true rfl ?_ | refine rn_false rfl ?_ | refine rn_exit rfl ?_ | refine pl_not rfl rfl ?_))
    exact rn_ret Try.func76 (.inl ⟨_, rfl, rfl⟩) ⟨true, rfl, ht2, fun h => (by cases h), fun _ => ⟨Ms2, Me2, Ps2, Pe2, hB2, h0, hk2, hT2, hc2, hcs2, hz2⟩⟩
  · rw [List.concat_eq_append] at h0
    have hl0 : Ps2.length = P0.length + 1 := by rw [h0]; simp
    subst h0
    refine pl_yes rfl rfl rfl rfl rfl (by first | (simp only [cmpP]; omega) | (simp [cmpP]; done) | (simp [cmpP]; omega)) ?_
    (repeat (first | refine pl_pure hT rfl rfl rfl ?_ | refine pl_nil ?_ | refine rn_seq ?_ | refine rn_plain ?_ | refine rn_block ?_ | refine rn_inBlock ?_ | refine rn_skip ?_ | refine rn_true rfl ?_ | refine rn_false rfl ?_ | refine rn_exit rfl ?_ | refine pl_not rfl rfl ?_))
    refine pl_val _ rfl rfl (val_load1 hT rfl rfl rfl (hX2.cell rfl)) ?_
    (repeat (first | refine pl_pure hT rfl rfl rfl ?_ | refine pl_nil ?_ | refine rn_seq ?_ | refine rn_plain ?_ | refine rn_block ?_ | refine rn_inBlock ?_ | refine rn_skip ?_ | refine rn_true rfl ?_ | refine rn_false rfl ?_ | refine rn_exit rfl ?_ | refine pl_not rfl rfl ?_))
    refine pl_num (((P0.length : Nat) : Int)) rfl rfl rfl rfl rfl (by simp only [ariP]; omega) ?_
    (repeat (first | refine pl_pure hT rfl rfl rfl ?_ | refine pl_nil ?_ | refine rn_seq ?_ | refine rn_plain ?_ | refine rn_block ?_ | refine rn_inBlock ?_ | refine rn_skip ?_ | refine rn_true rfl ?_ | refine rn_false rfl ?_ | refine rn_exit rfl ?_ | refine pl_not rfl rfl ?_))
    refine pl_val _ rfl rfl (val_load1 hT rfl rfl rfl (hX2.cell rfl)) ?_
    (repeat (first | refine pl_pure hT rfl rfl rfl ?_ | refine pl_nil ?_ | refine rn_seq ?_ | refine rn_plain ?_ | refine rn_block ?_ | refine rn_inBlock ?_ | refine rn_skip ?_ | refine rn_true rfl ?_ | refine rn_false rfl ?_ | refine rn_exit rfl ?_ | refine pl_not rfl rfl ?_))
    have hflat : (((P0 ++ [p]).map PS.vals).flatMap fun p => [p.1, p.2]) = (P0.map PS.vals).flatMap (fun p => [p.1, p.2]) ++ [p.xa, p.xb] := by simp [PS.vals]
    have hfl0 : ((P0.map PS.vals).flatMap fun p => [p.1, p.2]).length = P0.length * 2 := by
      rw [flat_length (k := 2) (fun p _ => rfl), List.length_map]
    obtain ⟨gr, capr', hvr, hrr⟩ := hO2.range (q := P0.length * 2) (cs := [p.xa, p.xb]) (by rw [hflat, ← hfl0, List.drop_left]; rfl) (by rw [hl0]; omega)
    cases hvr
    have hval := hB2.vS p (by simp)
    obtain ⟨pa, pca, hpa⟩ := hval.a.form
    obtain ⟨pb, pcb, hpb⟩ := hval.b.form
    refine pl_val _ rfl rfl (val_index P0.length hT rfl rfl rfl rfl rfl (by omega) w2) ?_
    refine pl_val _ rfl rfl (val_load [p.xa, p.xb] hT rfl rfl rfl (by rw [Nat.zero_add]; exact hrr)) ?_
    refine pl_op rfl rfl (opTo_allocN _ rfl zero_twinsS ?_)
    intro w3 c hc3 hs3 hk3 hC3
    refine pl_op rfl rfl (opTo_storeN [p.xa, p.xb] rfl rfl rfl rfl (by kernel_rfl) hC3 (by simp) (by rw [hpa, hpb]; intro u hu; simp at hu; rcases hu with rfl | rfl <;> rfl) ?_)
    intro w4 hs4 hk4 hC4
    rw [splice_whole (by rfl)] at hC4
    have hk24 : Keep [] w2 w4 := hk3.trB hk4 (by omega)
    have hX4 := hk24.blk hX2 (by simp)
    (repeat (first | refine pl_pure hT rfl rfl rfl ?_ | refine pl_nil ?_ | refine rn_seq ?_ | refine rn_plain ?_ | refine rn_block ?_ | refine rn_inBlock ?_ | refine rn_skip ?_ | refine rn_true rfl ?_ | refine rn_false rfl ?_ | refine rn_exit rfl ?_ | refine pl_not rfl rfl ?_))
    refine pl_val _ rfl rfl (val_load1 hT rfl rfl rfl (hX4.cell rfl)) ?_
    (repeat (first | refine pl_pure hT rfl rfl rfl ?_ | refine pl_nil ?_ | refine rn_seq ?_ | refine rn_plain ?_ | refine rn_block ?_ | refine rn_inBlock ?_ | refine rn_skip ?_ | refine rn_true rfl ?_ | refine rn_false rfl ?_ | refine rn_exit rfl ?_ | refine pl_not rfl rfl ?_))
    refine pl_val _ rfl rfl (val_sliceTo P0.length hT rfl rfl rfl rfl rfl (by have := hO2.cap_le; simp only [capOf] at this; omega) w4) ?_
    (repeat (first | refine pl_pure hT rfl rfl rfl ?_ | refine pl_nil ?_ | refine rn_seq ?_ | refine rn_plain ?_ | refine rn_block ?_ | refine rn_inBlock ?_ | refine rn_skip ?_ | refine rn_true rfl ?_ | refine rn_false rfl ?_ | refine rn_exit rfl ?_ | refine pl_not rfl rfl ?_))
    refine pl_op rfl rfl (opTo_storeN [.slice (some ⟨gr, 0, none⟩) P0.length capr] rfl rfl rfl rfl (by kernel_rfl) hX4 (by simp) (by simp; rfl) ?_)
    intro w5 hs5 hk5 hX5
    have hB4 := hB2.keep hk24
    have hO4 := hO2.keep hk24 (by simp)
    have hcut := hO4.cutTo (m := P0.length) (by omega) rfl
    rw [hflat, ← hfl0, List.take_left] at hcut
    have hxr : ∀ k, (Value.slice (some ⟨gr, 0, none⟩) P0.length capr).ownBlock = some k → k ∉ [xs] := fun k hk => by
      simp [Value.ownBlock] at hk
      subst hk
      rcases hO4.2 with ⟨h0, _⟩ | ⟨g', cap', cur', h0, _, hb', _⟩
      · cases h0
      · injection h0 with h0; injection h0 with h0; injection h0 with h0; subst h0; simpa using (hb'.ne hX4 (by decide))
    have ht5 : Tw w0.heap.size [xs, ms] [tTS] w4 w5 := Tw.of1 hk5 hB2.s.bx (.inl (by simp))
    obtain ⟨es4, cl4, hm4, hkeys4⟩ := hB4.s.map
    have hm5 := (hk5.block ms (Array.getElem?_eq_some_iff.1 hm4).1 (by simp; exact fun e => not_map hX4 hm4 e.symm)).trans hm4
    have hst5 : St tPS tTS w5 w0.heap.size xs ms Ms2 (P0.map PS.vals) := ⟨hB2.s.bx, hB2.s.bm, ⟨_, hX5, by rw [List.length_map]; exact hcut.keep hk5 hxr⟩, ⟨es4, cl4, hm5, hkeys4⟩⟩
    have hB5 := hB4.turnS ht5 hst5 hB2.pS (fun q hq => hB2.vS q (by simp [hq]))
    have hC5 := hk5.blk hC4 (by simpa using hC4.ne hX4 (by decide))
    have htw5 : TwA w0 xs ms xe me w w5 := Tw.trans (Tw.trans ht2 (TwA.of hk24)) (TwA.ofS ht5)
    (repeat (first | refine pl_pure hT rfl rfl rfl ?_ | refine pl_nil ?_ | refine rn_seq ?_ | refine rn_plain ?_ | refine rn_block ?_ | refine rn_inBlock ?_ | refine rn_skip ?_ | refine rn_true rfl ?_ | refine rn_false rfl ?_ | refine rn_exit rfl ?_ | refine pl_not rfl rfl ?_))
    refine pl_val _ rfl rfl (val_load1 hT rfl rfl rfl (hC5.cell rfl)) ?_
    (repeat (first | refine pl_pure hT rfl rfl rfl ?_ | refine pl_nil ?_ | refine rn_seq ?_ | refine rn_plain ?_ | refine rn_block ?_ | refine rn_inBlock ?_ | refine rn_skip ?_ | refine rn_true rfl ?_ | refine rn_false rfl ?_ | refine rn_exit rfl ?_ | refine pl_not rfl rfl ?_))
    refine pl_val _ rfl rfl (val_load1 hT rfl rfl rfl (hC5.cell rfl)) ?_
    (repeat (first | refine pl_pure hT rfl rfl rfl ?_ | refine pl_nil ?_ | refine rn_seq ?_ | refine rn_plain ?_ | refine rn_block ?_ | refine rn_inBlock ?_ | refine rn_skip ?_ | refine rn_true rfl ?_ | refine rn_false rfl ?_ | refine rn_exit rfl ?_ | refine pl_not rfl rfl ?_))
    have hsE := fun b => sumX_append b P0 [p]
    have hsS := fun b => sumS_append b P0 [p]
    simp only [sumX, sumS, Nat.add_zero] at hsE hsS
    have hmA := mS_append P0 [p]
    simp only [mS, Nat.add_zero] at hmA
    have hx5 := h.stays htw5 hx (by decide) (by decide) (by decide)
    refine pl_op rfl rfl (opTo_call rfl rfl rfl rfl (by decide +kernel) ((eqFuncS_ret hB5 hx5 hF p hval (fun b => by have := hc2 b; have := hsE b; omega) (fun b => by have := hcs2 b; have := hsS b; omega) (by omega)).mono ?_))
    rintro r w6 ⟨res, rfl, ht6, hf6, htr6⟩
    have htw6 := Tw.trans htw5 ht6
    cases res with
    | false =>
      (repeat (first | refine pl_pure hT rfl rfl rfl ?_ | refine pl_nil ?_ | refine rn_seq ?_ | refine rn_plain ?_ | refine rn_block ?_ | refine rn_inBlock ?_ | refine rn_skip ?_ | refine rn_true rfl ?_ | refine rn_false rfl ?_ | refine rn_exit rfl ?_ | refine pl_not rfl rfl ?_))
      refine rn_ret Try.func76 (.inl ⟨_, rfl, rfl⟩) ⟨false, rfl, htw6, fun _ => ?_, fun h => (by cases h)⟩
      rw [hT2, List.all_append]
      simp [hf6 rfl]
    | true =>
      obtain ⟨Ms6, Me6, Ns6, Ne6, hB6, hg6, hcx6, hcs6, hz6, hn6⟩ := htr6 rfl
      simp only at hcx6 hcs6
      (repeat (first | refine pl_pure hT rfl rfl rfl ?_ | refine pl_nil ?_ | refine rn_seq ?_ | refine rn_plain ?_ | refine rn_block ?_ | refine rn_inBlock ?_ | refine rn_skip ?_ | refine rn_true rfl ?_ | refine rn_false rfl ?_ | refine rn_exit rfl ?_ | refine pl_not rfl rfl ?_))
      refine rn_sub ?_ (ih (mE (Pe2 ++ Ne6) + mS (P0 ++ Ns6)) [(0, .pointer (some ⟨xs, 0, none⟩)), (1, cl2 bx xs)] w6 (by rw [mE_append, mS_append]; omega) ⟨Ms6, Me6, _, _, rfl, rfl, hB6, fun h => (by cases h), ?_, fun b => ?_, fun b => ?_, by rw [mE_append, mS_append]; omega, htw6⟩)
      · exact ⟨rfl, rfl, trivial⟩
      · rw [hT2]
        simp only [List.all_append, List.all_cons, List.all_nil, hg6]
        cases P0.all PS.ok <;> cases Pe2.all PE.ok <;> cases Ns6.all PS.ok <;> cases Ne6.all PE.ok <;> rfl
      · have := hc2 b
        have := hcx6 b
        have := hsE b
        rw [sumE_append, sumX_append]
        omega
      · have := hcs2 b
        have := hcs6 b
        have := hsS b
        rw [sumS_append]
        omega
end
end E
end Go.Proofs.Ytpbdjpoohpocfab
