/- What waits of both kinds; the contract of the closure that holds two expressions against each other. -/
import Derived.Test.YtpbdjpoohpocfabSaA
namespace Go.Proofs.Ytpbdjpoohpocfab
set_option maxRecDepth 20000
set_option maxHeartbeats 4000000
namespace E
open Go.Proofs

abbrev tPE : Nat := 139
abbrev tPS : Nat := 135
abbrev tTE : Nat := 174
abbrev tTS : Nat := 180

structure Both (F : Nat → Prop) (w0 w : World) (xs ms xe me : Nat) (Ms Me : List Nat) (Ps : List PS) (Pe : List PE) : Prop where
  kp : Keep [] w0 w
  s : St tPS tTS w w0.heap.size xs ms Ms (Ps.map PS.vals)
  e : St tPE tTE w w0.heap.size xe me Me (Pe.map PE.vals)
  hne : ms ≠ me
  pS : ∀ g ∈ Ms, ∃ L e, Blk w0 g L e
  pE : ∀ g ∈ Me, ∃ L e, Blk w0 g L e
  vS : ∀ p ∈ Ps, ValidS F w0 p
  vE : ∀ p ∈ Pe, ValidE F w0 p

/-- All that may turn. -/
def TwA (w0 : World) (xs ms xe me : Nat) (w w' : World) : Prop := Tw w0.heap.size [xs, ms, xe, me] [tTS, tTE] w w'

section
variable {F : Nat → Prop} {w0 w w' : World} {xs ms xe me : Nat} {Ms Me : List Nat} {Ps : List PS} {Pe : List PE}

theorem Both.keep (h : Both F w0 w xs ms xe me Ms Me Ps Pe) (hk : Keep [] w w') : Both F w0 w' xs ms xe me Ms Me Ps Pe :=
  ⟨h.kp.tr hk, h.s.keep hk, h.e.keep hk, h.hne, h.pS, h.pE, h.vS, h.vE⟩
/-- A block that none of this is. -/
theorem Both.box (h : Both F w0 w xs ms xe me Ms Me Ps Pe) {k : Nat} {L : List Value} {t : TypeId} (hb : Blk w k L t) (h1 : t ≠ tPS) (h2 : t ≠ tPE) : k ∉ [xs, ms, xe, me] := by
  obtain ⟨_, hx, _⟩ := h.s.blk
  obtain ⟨_, hy, _⟩ := h.e.blk
  obtain ⟨_, _, hm, _⟩ := h.s.map
  obtain ⟨_, _, hn, _⟩ := h.e.map
  simp only [List.mem_cons, List.not_mem_nil, or_false, not_or]
  exact ⟨hb.ne hx h1, not_map hb hm, hb.ne hy h2, not_map hb hn⟩
theorem Both.stays (h : Both F w0 w xs ms xe me Ms Me Ps Pe) (ht : TwA w0 xs ms xe me w w') {k : Nat} {L : List Value} {t : TypeId} (hb : Blk w k L t) (h1 : t ≠ tPS) (h2 : t ≠ tPE) (h3 : t ∉ [tTS, tTE]) : Blk w' k L t := ht.blk hb (h.box hb h1 h2) h3
theorem Both.turnE {Me' : List Nat} {Pe' : List PE} (h : Both F w0 w xs ms xe me Ms Me Ps Pe) (ht : Tw w0.heap.size [xe, me] [tTE] w w') (he : St tPE tTE w' w0.heap.size xe me Me' (Pe'.map PE.vals)) (hp : ∀ g ∈ Me', ∃ L e, Blk w0 g L e) (hv : ∀ p ∈ Pe', ValidE F w0 p) : Both F w0 w' xs ms xe me Ms Me' Ps Pe' := by
  obtain ⟨_, hx, _⟩ := h.s.blk
  obtain ⟨_, hy, _⟩ := h.e.blk
  obtain ⟨_, _, hm, _⟩ := h.s.map
  obtain ⟨_, _, hn, _⟩ := h.e.map
  refine ⟨ht.keep h.kp, h.s.turn ht ?_ ?_ (by decide) (by decide) ?_, he, h.hne, h.pS, hp, h.vS, hv⟩
  · simp only [List.mem_cons, List.not_mem_nil, or_false, not_or]
    exact ⟨hx.ne hy (by decide), not_map hx hn⟩
  · simp only [List.mem_cons, List.not_mem_nil, or_false, not_or]
    exact ⟨fun e => not_map hy hm e.symm, h.hne⟩
  · intro k L hb
    simp only [List.mem_cons, List.not_mem_nil, or_false, not_or]
    exact ⟨hb.ne hy (by decide), not_map hb hn⟩
theorem Both.turnS {Ms' : List Nat} {Ps' : List PS} (h : Both F w0 w xs ms xe me Ms Me Ps Pe) (ht : Tw w0.heap.size [xs, ms] [tTS] w w') (hs : St tPS tTS w' w0.heap.size xs ms Ms' (Ps'.map PS.vals)) (hp : ∀ g ∈ Ms', ∃ L e, Blk w0 g L e) (hv : ∀ p ∈ Ps', ValidS F w0 p) : Both F w0 w' xs ms xe me Ms' Me Ps' Pe := by
  obtain ⟨_, hx, _⟩ := h.s.blk
  obtain ⟨_, hy, _⟩ := h.e.blk
  obtain ⟨_, _, hm, _⟩ := h.s.map
  obtain ⟨_, _, hn, _⟩ := h.e.map
  refine ⟨ht.keep h.kp, hs, h.e.turn ht ?_ ?_ (by decide) (by decide) ?_, h.hne, hp, h.pE, hv, h.vE⟩
  · simp only [List.mem_cons, List.not_mem_nil, or_false, not_or]
    exact ⟨hy.ne hx (by decide), not_map hy hm⟩
  · simp only [List.mem_cons, List.not_mem_nil, or_false, not_or]
    exact ⟨fun e => not_map hx hn e.symm, fun e => h.hne e.symm⟩
  · intro k L hb
    simp only [List.mem_cons, List.not_mem_nil, or_false, not_or]
    exact ⟨hb.ne hx (by decide), not_map hb hm⟩
theorem TwA.ofE (h : Tw w0.heap.size [xe, me] [tTE] w w') : TwA w0 xs ms xe me w w' := Tw.mono h (by simp) (by simp)
theorem TwA.ofS (h : Tw w0.heap.size [xs, ms] [tTS] w w') : TwA w0 xs ms xe me w w' := Tw.mono h (by simp) (by simp)
theorem TwA.of (h : Keep [] w w') : TwA w0 xs ms xe me w w' := Tw.of h
end

/-- What comes of holding things against each other: they are not the same; or they are just if all is that came to wait. -/
def Out (kd : Bool) (F : Nat → Prop) (w0 : World) (xs ms xe me : Nat) (Ms Me : List Nat) (Ps : List PS) (Pe : List PE) (good : Bool) (cx cs : Nat → Nat) (size : Nat) (w : World) (r : Value) (w' : World) : Prop :=
  ∃ res : Bool, r = .bool res ∧ TwA w0 xs ms xe me w w' ∧ (res = false → good = false) ∧
    (res = true → ∃ Ms' Me' Ns Ne, Both F w0 w' xs ms xe me Ms' Me' (Ps ++ Ns) (Pe ++ Ne) ∧ good = (Ns.all PS.ok && Ne.all PE.ok) ∧ (∀ b, Me'.count b + sumE b Ne + sumX b Ns = Me.count b + cx b) ∧ (∀ b, Ms'.count b + sumS b Ns = Ms.count b + cs b) ∧ mE Ne + mS Ns + 1 ≤ size ∧ (kd = false → Ns = []))

theorem eqEs_len : ∀ {a b : List ET}, eqEs a b = true → a.length = b.length
  | [], [], _ => rfl
  | [], _ :: _, h => by simp [eqEs] at h
  | _ :: _, [], h => by simp [eqEs] at h
  | x :: r, y :: s, h => by
    simp only [eqEs, Bool.and_eq_true] at h
    simp [eqEs_len h.2]
theorem eqSs_len : ∀ {a b : List ST}, eqSs a b = true → a.length = b.length
  | [], [], _ => rfl
  | [], _ :: _, h => by simp [eqSs] at h
  | _ :: _, [], h => by simp [eqSs] at h
  | x :: r, y :: s, h => by
    simp only [eqSs, Bool.and_eq_true] at h
    simp [eqSs_len h.2]
theorem eqEs_ne {a b : List ET} (h : a.length ≠ b.length) : eqEs a b = false := by
  cases h' : eqEs a b with
  | false => rfl
  | true => exact absurd (eqEs_len h') h
theorem eqSs_ne {a b : List ST} (h : a.length ≠ b.length) : eqSs a b = false := by
  cases h' : eqSs a b with
  | false => rfl
  | true => exact absurd (eqSs_len h') h
theorem eqEs_nil {a b : List ET} (h : a.length = 0) (h' : b.length = 0) : eqEs a b = true := by
  rw [List.eq_nil_of_length_eq_zero h, List.eq_nil_of_length_eq_zero h']
  rfl
theorem eqSs_nil {a b : List ST} (h : a.length = 0) (h' : b.length = 0) : eqSs a b = true := by
  rw [List.eq_nil_of_length_eq_zero h, List.eq_nil_of_length_eq_zero h']
  rfl

section
variable {F : Nat → Prop} {w0 w : World} {xs ms xe me : Nat} {Ms Me : List Nat} {Ps : List PS} {Pe : List PE}

/-- Two lists of expressions come to wait, or are seen not to be the same. -/
theorem addE_out (h : Both F w0 w xs ms xe me Ms Me Ps Pe) {g : Nat} {la : List AE} {lb : List ET} {xa xb : Value} (ha : AExprsV w0 xa g la) (hb : ExprsV F w0 xb lb) (hc : ∀ b, Me.count b + (hit g b la.length + cEs b la) ≤ 1) (hz : mE Pe + mS Ps ≤ 100000) :
    Ret Try.prog 72 [.pointer (some ⟨xe, 0, none⟩), xa, xb] w (Out false F w0 xs ms xe me Ms Me Ps Pe (eqEs (erEs la) lb) (fun b => hit g b la.length + cEs b la) (fun _ => 0) (szEs (erEs la) + 1) w) := by
  obtain ⟨a, ca, rfl⟩ := ha.form
  obtain ⟨b, cb, rfl⟩ := hb.form
  by_cases hn : la.length = lb.length
  · rcases Nat.eq_zero_or_pos la.length with h0 | h0
    · refine (addE_nil h0 (by omega)).mono ?_
      rintro r w' ⟨rfl, rfl⟩
      refine ⟨true, rfl, TwA.of (Keep.refl _ _), fun h => (by cases h), fun _ => ⟨Ms, Me, [], [], ?_, ?_, fun b => ?_, fun b => ?_, ?_, ?_⟩⟩
      · simpa using h
      · simp [eqEs_nil (a := erEs la) (b := lb) (by rw [erEs_length]; exact h0) (by omega)]
      · have : la = [] := List.eq_nil_of_length_eq_zero h0
        subst this
        simp [sumE, sumX, hit, cEs]
      · simp [sumS]
      · simp [mE, mS]
      · simp
    · have hget : la[0]? = some la[0] := List.getElem?_eq_getElem h0
      have hgetb : lb[0]? = some (lb[0]'(by omega)) := List.getElem?_eq_getElem (by omega)
      obtain ⟨_, _, hv, ⟨L, t, hbg⟩, _, _⟩ := ha.at hget
      cases hv
      obtain ⟨bb, q, _, _, hv, _, _, _⟩ := hb.at hgetb
      cases hv
      have hg : g ∉ Me := by
        have := hc g
        rw [hit_self h0] at this
        exact List.count_eq_zero.1 (by omega)
      have hlen := mE_len h.vE
      rw [← hn] at hb ⊢
      refine (addE_pos h.e hg (h.kp.blk hbg (by simp)) (fun g' hg' => by obtain ⟨L', e', hb'⟩ := h.pE g' hg'; exact ⟨L', e', h.kp.blk hb' (by simp)⟩) h.kp.size (by rw [List.length_map]; omega) h0).mono ?_
      rintro r w' ⟨rfl, hst, ht⟩
      have hval : ValidE F w0 ⟨g, la, .slice (some ⟨g, 0, none⟩) la.length ca, .slice (some ⟨bb, q, none⟩) la.length cb, lb⟩ := ⟨ha, hb, hn, h0⟩
      refine ⟨true, rfl, TwA.ofE ht, fun h => (by cases h), fun _ => ⟨Ms, g :: Me, [], [⟨g, la, .slice (some ⟨g, 0, none⟩) la.length ca, .slice (some ⟨bb, q, none⟩) la.length cb, lb⟩], ?_, ?_, fun b => ?_, fun b => ?_, ?_, ?_⟩⟩
      · simp only [List.append_nil]
        refine h.turnE ht (by rw [List.map_append]; exact hst) ?_ ?_
        · intro g' hg'
          rcases List.mem_cons.1 hg' with rfl | hg'
          · exact ⟨L, t, hbg⟩
          · exact h.pE g' hg'
        · intro p hp
          rcases List.mem_append.1 hp with hp | hp
          · exact h.vE p hp
          · simp at hp
            subst hp
            exact hval
      · simp [PE.ok]
      · simp only [sumE, sumX, List.count_cons]
        by_cases e : g = b
        · subst e
          rw [hit_self h0]
          simp
          omega
        · rw [hit_ne e]
          simp [e]
      · simp [sumS]
      · simp [mE, mS]
      · simp
  · refine (addE_ne hn).mono ?_
    rintro r w' ⟨rfl, rfl⟩
    exact ⟨false, rfl, TwA.of (Keep.refl _ _), fun _ => eqEs_ne (by rw [erEs_length]; exact hn), fun h => (by cases h)⟩

theorem addS_out (h : Both F w0 w xs ms xe me Ms Me Ps Pe) {g : Nat} {la : List AS} {lb : List ST} {xa xb : Value} (ha : AStmtsV w0 xa g la) (hb : StmtsV F w0 xb lb) (hc : ∀ b, Ms.count b + (hit g b la.length + sSs b la) ≤ 1) (hz : mE Pe + mS Ps ≤ 100000) :
    Ret Try.prog 74 [.pointer (some ⟨xs, 0, none⟩), xa, xb] w (Out true F w0 xs ms xe me Ms Me Ps Pe (eqSs (erSs la) lb) (fun b => xSs b la) (fun b => hit g b la.length + sSs b la) (szSs (erSs la) + 1) w) := by
  obtain ⟨a, ca, rfl⟩ := ha.form
  obtain ⟨b, cb, rfl⟩ := hb.form
  by_cases hn : la.length = lb.length
  · rcases Nat.eq_zero_or_pos la.length with h0 | h0
    · refine (addS_nil h0 (by omega)).mono ?_
      rintro r w' ⟨rfl, rfl⟩
      refine ⟨true, rfl, TwA.of (Keep.refl _ _), fun h => (by cases h), fun _ => ⟨Ms, Me, [], [], ?_, ?_, fun b => ?_, fun b => ?_, ?_, ?_⟩⟩
      · simpa using h
      · simp [eqSs_nil (a := erSs la) (b := lb) (by rw [erSs_length]; exact h0) (by omega)]
      · have : la = [] := List.eq_nil_of_length_eq_zero h0
        subst this
        simp [sumE, sumX, xSs]
      · have : la = [] := List.eq_nil_of_length_eq_zero h0
        subst this
        simp [sumS, hit, sSs]
      · simp [mE, mS]
      · simp
    · have hget : la[0]? = some la[0] := List.getElem?_eq_getElem h0
      have hgetb : lb[0]? = some (lb[0]'(by omega)) := List.getElem?_eq_getElem (by omega)
      obtain ⟨_, _, hv, ⟨L, t, hbg⟩, _, _⟩ := ha.at hget
      cases hv
      obtain ⟨bb, q, _, _, hv, _, _, _⟩ := hb.at hgetb
      cases hv
      have hg : g ∉ Ms := by
        have := hc g
        rw [hit_self h0] at this
        exact List.count_eq_zero.1 (by omega)
      have hlen := mS_len h.vS
      rw [← hn] at hb ⊢
      refine (addS_pos h.s hg (h.kp.blk hbg (by simp)) (fun g' hg' => by obtain ⟨L', e', hb'⟩ := h.pS g' hg'; exact ⟨L', e', h.kp.blk hb' (by simp)⟩) h.kp.size (by rw [List.length_map]; omega) h0).mono ?_
      rintro r w' ⟨rfl, hst, ht⟩
      have hval : ValidS F w0 ⟨g, la, .slice (some ⟨g, 0, none⟩) la.length ca, .slice (some ⟨bb, q, none⟩) la.length cb, lb⟩ := ⟨ha, hb, hn, h0⟩
      refine ⟨true, rfl, TwA.ofS ht, fun h => (by cases h), fun _ => ⟨g :: Ms, Me, [⟨g, la, .slice (some ⟨g, 0, none⟩) la.length ca, .slice (some ⟨bb, q, none⟩) la.length cb, lb⟩], [], ?_, ?_, fun b => ?_, fun b => ?_, ?_, ?_⟩⟩
      · simp only [List.append_nil]
        refine h.turnS ht (by rw [List.map_append]; exact hst) ?_ ?_
        · intro g' hg'
          rcases List.mem_cons.1 hg' with rfl | hg'
          · exact ⟨L, t, hbg⟩
          · exact h.pS g' hg'
        · intro p hp
          rcases List.mem_append.1 hp with hp | hp
          · exact h.vS p hp
          · simp at hp
            subst hp
            exact hval
      · simp [PS.ok]
      · simp [sumE, sumX]
      · simp only [sumS, List.count_cons]
        by_cases e : g = b
        · subst e
          rw [hit_self h0]
          simp
          omega
        · rw [hit_ne e]
          simp [e]
      · simp [mE, mS]
      · simp
  · refine (addS_ne hn).mono ?_
    rintro r w' ⟨rfl, rfl⟩
    exact ⟨false, rfl, TwA.of (Keep.refl _ _), fun _ => eqSs_ne (by rw [erSs_length]; exact hn), fun h => (by cases h)⟩

/-- One thing behind another. -/
theorem Out.after {kd : Bool} {w1 w2 : World} {Ms' Me' : List Nat} {Ns : List PS} {Ne : List PE} {good1 good2 : Bool} {cx1 cs1 cx2 cs2 : Nat → Nat} {s1 s2 : Nat} {r : Value} (ht : TwA w0 xs ms xe me w w1) (hg : good1 = (Ns.all PS.ok && Ne.all PE.ok)) (hcx : ∀ b, Me'.count b + sumE b Ne + sumX b Ns = Me.count b + cx1 b) (hcs : ∀ b, Ms'.count b + sumS b Ns = Ms.count b + cs1 b) (hs : mE Ne + mS Ns ≤ s1) (hn : kd = false → Ns = [])
    (h2 : Out kd F w0 xs ms xe me Ms' Me' (Ps ++ Ns) (Pe ++ Ne) good2 cx2 cs2 s2 w1 r w2) : Out kd F w0 xs ms xe me Ms Me Ps Pe (good1 && good2) (fun b => cx1 b + cx2 b) (fun b => cs1 b + cs2 b) (s1 + s2) w r w2 := by
  obtain ⟨res, rfl, ht2, hf, htr⟩ := h2
  refine ⟨res, rfl, Tw.trans ht ht2, fun h => by rw [hf h]; simp, fun h => ?_⟩
  obtain ⟨Ms2, Me2, Ns2, Ne2, hB, hg2, hcx2, hcs2, hs2, hn2⟩ := htr h
  refine ⟨Ms2, Me2, Ns ++ Ns2, Ne ++ Ne2, by rw [← List.append_assoc, ← List.append_assoc]; exact hB, ?_, fun b => ?_, fun b => ?_, ?_, fun h => by rw [hn h, hn2 h]; rfl⟩
  · rw [hg, hg2, List.all_append, List.all_append]
    cases Ns.all PS.ok <;> cases Ne.all PE.ok <;> cases Ns2.all PS.ok <;> cases Ne2.all PE.ok <;> rfl
  · have := hcx b
    have := hcx2 b
    rw [sumE_append, sumX_append]
    show _ = _ + (cx1 b + cx2 b)
    omega
  · have := hcs b
    have := hcs2 b
    rw [sumS_append]
    show _ = _ + (cs1 b + cs2 b)
    omega
  · rw [mE_append, mS_append]
    omega
theorem Out.congr {kd : Bool} {good good' : Bool} {cx cs cx' cs' : Nat → Nat} {s s' : Nat} {r : Value} {w' : World} (h : Out kd F w0 xs ms xe me Ms Me Ps Pe good cx cs s w r w') (hg : good' = good) (hx : ∀ b, cx' b = cx b) (hs : ∀ b, cs' b = cs b) (hz : s ≤ s') : Out kd F w0 xs ms xe me Ms Me Ps Pe good' cx' cs' s' w r w' := by
  obtain ⟨res, rfl, ht2, hf, htr⟩ := h
  refine ⟨res, rfl, ht2, fun h => by rw [hg]; exact hf h, fun h => ?_⟩
  obtain ⟨Ms2, Me2, Ns2, Ne2, hB, hg2, hcx2, hcs2, hs2, hn2⟩ := htr h
  exact ⟨Ms2, Me2, Ns2, Ne2, hB, by rw [hg]; exact hg2, fun b => by rw [hx]; exact hcx2 b, fun b => by rw [hs]; exact hcs2 b, by omega, hn2⟩
theorem Out.no {kd : Bool} {good : Bool} {cx cs : Nat → Nat} {s : Nat} {w' : World} (ht : TwA w0 xs ms xe me w w') (hg : good = false) : Out kd F w0 xs ms xe me Ms Me Ps Pe good cx cs s w (.bool false) w' := ⟨false, rfl, ht, fun _ => hg, fun h => (by cases h)⟩
theorem Out.pre {kd : Bool} {good : Bool} {cx cs : Nat → Nat} {s : Nat} {r : Value} {w1 w' : World} (ht : TwA w0 xs ms xe me w w1) (h : Out kd F w0 xs ms xe me Ms Me Ps Pe good cx cs s w1 r w') : Out kd F w0 xs ms xe me Ms Me Ps Pe good cx cs s w r w' := by
  obtain ⟨res, rfl, ht2, hf, htr⟩ := h
  exact ⟨res, rfl, Tw.trans ht ht2, hf, htr⟩
theorem Out.up {good : Bool} {cx cs : Nat → Nat} {s : Nat} {r : Value} {w' : World} (h : Out false F w0 xs ms xe me Ms Me Ps Pe good cx cs s w r w') : Out true F w0 xs ms xe me Ms Me Ps Pe good cx cs s w r w' := by
  obtain ⟨res, rfl, ht2, hf, htr⟩ := h
  refine ⟨res, rfl, ht2, hf, fun h => ?_⟩
  obtain ⟨Ms2, Me2, Ns2, Ne2, hB, hg2, hcx2, hcs2, hs2, _⟩ := htr h
  exact ⟨Ms2, Me2, Ns2, Ne2, hB, hg2, hcx2, hcs2, hs2, fun h => (by cases h)⟩
end
end E
end Go.Proofs.Ytpbdjpoohpocfab
