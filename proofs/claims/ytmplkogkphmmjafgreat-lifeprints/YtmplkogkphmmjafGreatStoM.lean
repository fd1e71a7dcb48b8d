/- Plain mathematics of a commit: all or nothing. -/
import Derived.Test.YtmplkogkphmmjafGreatJ11
namespace Go.Proofs.YtmplkogkphmmjafGreat
set_option maxRecDepth 20000
set_option maxHeartbeats 4000000
namespace E

def at_ (K : List Bool) (k : Nat) : Bool := K.getD k false

theorem at_takeK {K : List Bool} (hK : K.length = 34) (a : Int) (k : Nat) : at_ (takeK K a) k = (at_ K k || (hasB a && decide (a.toNat = k))) := by
  unfold takeK at_
  cases hb : hasB a with
  | false => simp
  | true =>
    have hi : 0 ≤ a ∧ a < 34 := by simpa [hasB] using hb
    simp only [if_true, List.getD_eq_getElem?_getD, List.getElem?_set]
    by_cases e : a.toNat = k
    · subst e
      rw [if_pos rfl, if_pos (by omega)]
      simp
    · simp [e]

theorem at_takeAll : ∀ (l : List Int) {K : List Bool}, K.length = 34 → ∀ k, at_ (takeAll K l) k = (at_ K k || l.any fun a => hasB a && decide (a.toNat = k))
  | [], K, _, k => by simp [takeAll]
  | a :: r, K, hK, k => by
    have := at_takeAll r (K := takeK K a) (by rw [takeK_length, hK]) k
    rw [takeAll, List.foldl_cons]
    rw [takeAll] at this
    rw [this, at_takeK hK, List.any_cons, Bool.or_assoc]

theorem at_K0 (k : Nat) : at_ K0 k = false := by
  unfold at_ K0
  rw [List.getD_eq_getElem?_getD, List.getElem?_replicate]
  split <;> rfl

theorem at_takenK (S : List Int) (k : Nat) : at_ (takenK S) k = ((k == 0 || k == 1) || (tabS S).any (fun a => hasB a && decide (a.toNat = k)) || (pgS S).any (fun a => hasB a && decide (a.toNat = k))) := by
  unfold takenK
  have h0 : K0.length = 34 := rfl
  rw [at_takeAll _ (by rw [takeAll_length, takeAll_length, h0]), at_takeAll _ (by rw [takeAll_length, h0]), at_takeAll _ h0]
  congr 1
  congr 1
  rw [at_K0]
  rcases k with _ | _ | k
  · decide
  · decide
  · simp [hasB]

theorem taken_root {S : List Int} {k : Nat} (hk : k < 2) : at_ (takenK S) k = true := by
  rw [at_takenK]
  have : k = 0 ∨ k = 1 := by omega
  rcases this with rfl | rfl <;> simp
theorem taken_tab {S : List Int} {a : Int} (ha : a ∈ tabS S) (hb : hasB a = true) : at_ (takenK S) a.toNat = true := by
  rw [at_takenK]
  have : (tabS S).any (fun x => hasB x && decide (x.toNat = a.toNat)) = true := List.any_eq_true.2 ⟨a, ha, by simp [hb]⟩
  simp [this]
theorem taken_pg {S : List Int} {a : Int} (ha : a ∈ pgS S) (hb : hasB a = true) : at_ (takenK S) a.toNat = true := by
  rw [at_takenK]
  have : (pgS S).any (fun x => hasB x && decide (x.toNat = a.toNat)) = true := List.any_eq_true.2 ⟨a, ha, by simp [hb]⟩
  simp [this]

theorem hasB_false_or {a : Int} : hasB a = true ∨ hasB a = false := by cases hasB a <;> simp

theorem heldS_same {S S' : List Int} {a : Int} (h : hasB a = true → a ≠ 0 → sector S' a.toNat = sector S a.toNat) : heldS S' a = heldS S a := by
  unfold heldS
  split
  · rfl
  · rename_i hn
    have h1 : hasB a = true := by
      rcases hasB_false_or (a := a) with h | h
      · exact h
      · exact absurd (.inr h) hn
    exact h h1 fun h0 => hn (.inl h0)

theorem getD_mem {l : List Int} {i : Nat} (h : i < l.length) : l.getD i 0 ∈ l := by
  rw [List.getD_eq_getElem?_getD, List.getElem?_eq_getElem h]
  exact List.getElem_mem h

/-- What leaves the taken sectors alone leaves all that is told. -/
theorem stable {S S' : List Int} (hS : S.length = 272) (h : ∀ k, k < 34 → at_ (takenK S) k = true → sector S' k = sector S k) :
    lastRoot S' = lastRoot S ∧ tabS S' = tabS S ∧ pgS S' = pgS S ∧ ∀ i, readS S' i = readS S i := by
  have h0 := h 0 (by decide) (taken_root (by decide))
  have h1 := h 1 (by decide) (taken_root (by decide))
  have e1 : rootMax S' 1 = rootMax S 1 := by
    unfold rootMax
    rw [h0]
    rfl
  have hl : lastRoot S' = lastRoot S := by
    show rootMax S' (1 + 1) = rootMax S (1 + 1)
    unfold rootMax
    rw [h1, e1]
  have ht : tabS S' = tabS S := by rw [tabS, tabS, hl]
  have t2 := tabS_length hS
  have hin : ∀ a : Int, hasB a = true → a.toNat < 34 := fun a hb => by simp [hasB] at hb; omega
  have hp : pgS S' = pgS S := by
    unfold pgS
    rw [ht, heldS_same fun hb _ => h _ (hin _ hb) (taken_tab (getD_mem (by omega)) hb), heldS_same fun hb _ => h _ (hin _ hb) (taken_tab (getD_mem (by omega)) hb)]
  refine ⟨hl, ht, hp, fun i => ?_⟩
  unfold readS
  split
  · rename_i hi
    have hi' : 0 ≤ i ∧ i < 14 := by simpa [hasP] using hi
    rw [hp]
    exact heldS_same fun hb _ => h _ (hin _ hb) (taken_pg (getD_mem (by rw [pgS_length hS]; omega)) hb)
  · rfl

/-- What a store that was left in order keeps to: nothing leads to the second root. -/
structure Good (S : List Int) : Prop where
  len : S.length = 272
  tab : ∀ a ∈ tabS S, a ≠ 1
  pg : ∀ a ∈ pgS S, a ≠ 1

structure Same (S S' : List Int) : Prop where
  good : Good S'
  gen : genS S' = genS S
  read : ∀ i, readS S' i = readS S i

theorem Same.refl {S : List Int} (h : Good S) : Same S S := ⟨h, rfl, fun _ => rfl⟩
theorem same_of {S S' : List Int} (hG : Good S) (hl : S'.length = 272) (h : ∀ k, k < 34 → at_ (takenK S) k = true → sector S' k = sector S k) : Same S S' := by
  obtain ⟨h1, h2, h3, h4⟩ := stable hG.len h
  exact ⟨⟨hl, by rw [h2]; exact hG.tab, by rw [h3]; exact hG.pg⟩, by rw [genS, genS, h1], h4⟩

theorem hd_root {S : List Int} : ∀ j, 0 ≤ hd (rootMax S j) ∧ ∀ k, k < j → hd (sector S k) ≤ hd (rootMax S j)
  | 0 => ⟨by show 0 ≤ hd z8; decide, fun k hk => by omega⟩
  | j + 1 => by
    obtain ⟨h1, h2⟩ := hd_root (S := S) j
    unfold rootMax
    split
    · rename_i hgt
      refine ⟨by omega, fun k hk => ?_⟩
      rcases Nat.lt_or_ge k j with h | h
      · have := h2 k h; omega
      · have : k = j := by omega
        rw [this]; exact Int.le_refl _
    · rename_i hgt
      refine ⟨h1, fun k hk => ?_⟩
      rcases Nat.lt_or_ge k j with h | h
      · exact h2 k h
      · have : k = j := by omega
        rw [this]; omega
theorem genS_nonneg (S : List Int) : 0 ≤ genS S := (hd_root 2).1

/-! ### Writes one behind the other -/
theorem settled_all (L : List Wr) (S : List Int) : settled (fun _ => true) L S = L.foldl upd S := by
  unfold settled stl
  simp only [if_true, List.take_length]
  have : ∀ (L : List Wr) (n : Nat) (S : List Int), (L.zipIdx n).foldl (fun S q => upd S q.1) S = L.foldl upd S := by
    intro L
    induction L with
    | nil => intro n S; rfl
    | cons p r ih => intro n S; rw [List.zipIdx_cons, List.foldl_cons, List.foldl_cons]; exact ih _ _
  exact this L 0 S

theorem foldl_upd_length {L : List Wr} (hL : ∀ p ∈ L, p.1 < 34 ∧ p.2.length = 8) {S : List Int} (hS : S.length = 272) : (L.foldl upd S).length = 272 := by
  induction L generalizing S with
  | nil => exact hS
  | cons p r ih => exact ih (fun q hq => hL q (List.mem_cons_of_mem _ hq)) (upd_length hS (hL p (by simp)))

theorem sector_foldl_other {L : List Wr} (hL : ∀ p ∈ L, p.1 < 34 ∧ p.2.length = 8) {S : List Int} (hS : S.length = 272) {k : Nat} (hk : k < 34) (hn : ∀ p ∈ L, p.1 ≠ k) : sector (L.foldl upd S) k = sector S k := by
  induction L generalizing S with
  | nil => rfl
  | cons p r ih =>
    have hp := hL p (by simp)
    rw [List.foldl_cons, ih (fun q hq => hL q (List.mem_cons_of_mem _ hq)) (upd_length hS hp) (fun q hq => hn q (List.mem_cons_of_mem _ hq)), sector_upd hS hp hk, if_neg (hn p (by simp))]

theorem sector_foldl_mem {L : List Wr} (hL : ∀ p ∈ L, p.1 < 34 ∧ p.2.length = 8) (hnd : (L.map (·.1)).Nodup) {S : List Int} (hS : S.length = 272) {p : Wr} (hp : p ∈ L) : sector (L.foldl upd S) p.1 = p.2 := by
  induction L generalizing S with
  | nil => simp at hp
  | cons q r ih =>
    have hq := hL q (by simp)
    have hr : ∀ p ∈ r, p.1 < 34 ∧ p.2.length = 8 := fun x hx => hL x (List.mem_cons_of_mem _ hx)
    rw [List.map_cons, List.nodup_cons] at hnd
    rw [List.foldl_cons]
    rcases List.mem_cons.1 hp with rfl | hp
    · rw [sector_foldl_other hr (upd_length hS hq) hq.1 (fun x hx e => hnd.1 (List.mem_map.2 ⟨x, hx, e⟩)), sector_upd hS hq hq.1, if_pos rfl]
    · exact ih hr hnd.2 (upd_length hS hq) hp

theorem settled_length {stays : Nat → Bool} {L : List Wr} (hL : ∀ p ∈ L, p.1 < 34 ∧ p.2.length = 8) {S : List Int} (hS : S.length = 272) : (settled stays L S).length = 272 := stl_length hL hS _ (Nat.le_refl _)

theorem sector_stl_other {stays : Nat → Bool} {L : List Wr} {S : List Int} {k : Nat} (hS : S.length = 272) (hL : ∀ p ∈ L, p.1 < 34 ∧ p.2.length = 8) (hk : k < 34) (hn : ∀ p ∈ L, p.1 ≠ k) : ∀ j, j ≤ L.length → sector (stl stays L j S) k = sector S k
  | 0, _ => by rw [stl_zero]
  | j + 1, h => by
    have hp : L[j]? = some L[j] := List.getElem?_eq_getElem h
    have hm : L[j] ∈ L := List.getElem_mem h
    rw [stl_succ stays hp]
    split
    · rw [sector_upd (stl_length hL hS j (by omega)) (hL _ hm) hk, if_neg (hn _ hm)]
      exact sector_stl_other hS hL hk hn j (by omega)
    · exact sector_stl_other hS hL hk hn j (by omega)

/-! ### What is planned -/
/-- The words that pages say of one, if any. -/
def lookP (ps : List Pg) (i : Nat) : Option (List Int) := ((ps.filter fun p => p.1 == (i : Int)).getLast?).map (·.2)
theorem lookP_snoc (ps : List Pg) (p : Pg) (i : Nat) : lookP (ps ++ [p]) i = if p.1 = (i : Int) then some p.2 else lookP ps i := by
  unfold lookP
  rw [List.filter_append]
  by_cases h : p.1 = (i : Int)
  · simp [h]
  · simp [h]

def cnt (K : List Bool) : Nat := K.count true

theorem cnt_takeK {K : List Bool} (a : Int) : cnt (takeK K a) ≤ cnt K + 1 := by
  unfold takeK cnt
  split
  · by_cases h : a.toNat < K.length
    · rw [List.count_set h]
      split <;> split <;> omega
    · rw [List.set_eq_of_length_le (by omega)]
      omega
  · omega
theorem cnt_takeAll : ∀ (l : List Int) (K : List Bool), cnt (takeAll K l) ≤ cnt K + l.length
  | [], K => by simp [takeAll]
  | a :: r, K => by
    have h1 := cnt_takeAll r (takeK K a)
    have h2 := cnt_takeK (K := K) a
    rw [takeAll, List.foldl_cons, List.length_cons]
    rw [takeAll] at h1
    omega
theorem cnt_takenK {S : List Int} (hS : S.length = 272) : cnt (takenK S) ≤ 18 := by
  unfold takenK
  have h1 := cnt_takeAll (pgS S) (takeAll (takeAll K0 [0, 1]) (tabS S))
  have h2 := cnt_takeAll (tabS S) (takeAll K0 [0, 1])
  have h3 : cnt (takeAll K0 [0, 1]) = 2 := by decide +kernel
  rw [pgS_length hS] at h1
  rw [tabS_length hS] at h2
  omega

theorem free_spec {K : List Bool} (hK : K.length = 34) (hc : cnt K < 34) : freeK K < 34 ∧ at_ K (freeK K) = false := by
  have hex : ∃ k, k < 34 ∧ at_ K k = false := by
    have hne : ¬ cnt K = K.length := by omega
    unfold cnt at hne
    rw [List.count_eq_length] at hne
    have : ∃ b ∈ K, ¬ true = b := by
      apply Classical.byContradiction
      intro hno
      exact hne fun b hb => Classical.byContradiction fun hn => hno ⟨b, hb, hn⟩
    obtain ⟨b, hb, hnb⟩ := this
    obtain ⟨k, hk⟩ := List.getElem?_of_mem hb
    have hlt : k < K.length := (List.getElem?_eq_some_iff.1 hk).1
    refine ⟨k, by omega, ?_⟩
    unfold at_
    rw [List.getD_eq_getElem?_getD, hk]
    cases b
    · rfl
    · exact absurd rfl hnb
  obtain ⟨k, hk, hf⟩ := hex
  unfold freeK firstOf
  cases hfind : (List.range 34).find? (fun i => !K.getD i false) with
  | none =>
    rw [List.find?_eq_none] at hfind
    have := hfind k (List.mem_range.2 hk)
    unfold at_ at hf
    rw [hf] at this
    simp at this
  | some j =>
    have h1 := List.mem_of_find?_eq_some hfind
    have h2 := List.find?_some hfind
    refine ⟨List.mem_range.1 h1, ?_⟩
    unfold at_
    simpa using h2

/-- What a plan keeps to: it writes, by W, to sectors that were free. -/
structure PInv (S : List Int) (x : Plan) (W : List Wr) : Prop where
  nlen : x.N.length = 17
  klen : x.K.length = 34
  sup : ∀ k, at_ (takenK S) k = true → at_ x.K k = true
  deeds : x.D = W.map fun p => some ((p.1 : Int), p.2)
  mem : ∀ p ∈ W, p.1 < 34 ∧ p.2.length = 8 ∧ at_ (takenK S) p.1 = false ∧ at_ x.K p.1 = true
  nd : (W.map (·.1)).Nodup
  c : cnt x.K ≤ 18 + W.length

theorem PInv.lay {S : List Int} {x : Plan} {W : List Wr} (h : PInv S x W) (hW : W.length < 16) {ws : List Int} (hw : ws.length = 8) {N' : List Int} (hN : N'.length = 17) :
    PInv S ⟨N', takeK x.K (freeK x.K : Nat), x.D ++ [some (((freeK x.K : Nat) : Int), ws)]⟩ (W ++ [(freeK x.K, ws)]) := by
  obtain ⟨h1, h2⟩ := free_spec h.klen (by have := h.c; omega)
  have hb : hasB ((freeK x.K : Nat) : Int) = true := by simp [hasB]; omega
  have hat : ∀ k, at_ (takeK x.K (freeK x.K : Nat)) k = (at_ x.K k || decide (freeK x.K = k)) := fun k => by
    rw [at_takeK h.klen, hb]
    simp
  refine ⟨hN, by simp [takeK_length, h.klen], fun k hk => by simp only [hat, h.sup k hk, Bool.true_or], by rw [h.deeds]; simp, fun p hp => ?_, ?_, ?_⟩
  · rcases List.mem_append.1 hp with hp | hp
    · obtain ⟨a, b, c, d⟩ := h.mem p hp
      exact ⟨a, b, c, by simp only [hat, d, Bool.true_or]⟩
    · simp at hp
      subst hp
      refine ⟨h1, hw, ?_, by simp [hat]⟩
      cases ht : at_ (takenK S) (freeK x.K) with
      | false => rfl
      | true => rw [h.sup _ ht] at h2; cases h2
  · rw [List.map_append, List.nodup_append]
    refine ⟨h.nd, by simp, fun a ha b hb e => ?_⟩
    simp at hb
    obtain ⟨p, hp, rfl⟩ := List.mem_map.1 ha
    have := (h.mem p hp).2.2.2
    rw [e, hb, h2] at this
    cases this
  · have := cnt_takeK (K := x.K) ((freeK x.K : Nat) : Int)
    have := h.c
    simp only [List.length_append, List.length_singleton]
    omega

theorem getD_set_same {l : List Int} {i : Nat} (h : i < l.length) (x : Int) : (l.set i x).getD i 0 = x := by
  rw [List.getD_eq_getElem?_getD, List.getElem?_set]
  simp [h]
theorem getD_set_other {l : List Int} {i j : Nat} (h : i ≠ j) (x : Int) : (l.set i x).getD j 0 = l.getD j 0 := by
  rw [List.getD_eq_getElem?_getD, List.getElem?_set]
  simp [h]

theorem cnt_ahead {done : List Int} {i : Int} (hi : hasP i = true) (hn : done.contains i = false) : cnt (ahead (done ++ [i])) = cnt (ahead done) + 1 := by
  have h14 := ahead_length done
  have hi' : 0 ≤ i ∧ i < 14 := by simpa [hasP] using hi
  have hlt : i.toNat < (ahead done).length := by omega
  have hat := ahead_at done hi
  rw [List.getElem?_eq_getElem hlt, hn] at hat
  have hat' : (ahead done)[i.toNat] = false := by simpa using hat
  rw [← ahead_set _ hi, cnt, List.count_set hlt, hat']
  simp [cnt]
theorem chkFrom_len : ∀ {ps : List Pg} {done : List Int}, chkFrom done ps = 0 → cnt (ahead done) + ps.length ≤ 14
  | [], done, _ => by
    have : cnt (ahead done) ≤ (ahead done).length := List.count_le_length
    rw [ahead_length] at this
    simpa using this
  | p :: r, done, h => by
    unfold chkFrom at h
    split at h
    · cases h
    · rename_i h1
      split at h
      · cases h
      · rename_i h2
        have := chkFrom_len h
        rw [cnt_ahead (by simpa using h1) (by simpa using h2)] at this
        simp only [List.length_cons]
        omega
theorem chk_len {ps : List Pg} (h : chk ps = 0) : ps.length ≤ 14 := by
  have := chkFrom_len h
  omega

/-- Where pages are led to. -/
def Leads (S : List Int) (ps : List Pg) (W : List Wr) (N : List Int) : Prop :=
  N.getD 0 0 = genS S + 1 ∧ ∀ i, i < 14 → match lookP ps i with
    | some ws => ∃ k, (k, ws) ∈ W ∧ N.getD (3 + i) 0 = (k : Int)
    | none => N.getD (3 + i) 0 = (pgS S).getD i 0

theorem planP_inv {S : List Int} (hS : S.length = 272) {ps : List Pg} (hc : chk ps = 0) (hwf : ∀ p ∈ ps, p.2.length = 8) : ∀ j, j ≤ ps.length → ∃ W, PInv S (planP S (ps.take j)) W ∧ W.length = j ∧ Leads S (ps.take j) W (planP S (ps.take j)).N
  | 0, _ => by
    have t2 := tabS_length hS
    have p14 := pgS_length hS
    refine ⟨[], ⟨by simp [planP, nextN, t2, p14], ?_, fun k hk => hk, rfl, by simp, by simp, ?_⟩, rfl, rfl, fun i hi => ?_⟩
    · show (takenK S).length = 34
      simp [takenK, takeAll_length, K0]
    · have := cnt_takenK hS
      simpa [planP] using this
    · obtain ⟨a, b, h⟩ := list2 t2
      show ((genS S + 1) :: (tabS S ++ pgS S)).getD (3 + i) 0 = _
      rw [h, Nat.add_comm]
      rfl
  | j + 1, hj => by
    obtain ⟨W, h1, h2, h3, h4⟩ := planP_inv hS hc hwf j (by omega)
    have h14 := chk_len hc
    obtain ⟨p, hp⟩ : ∃ p, ps[j]? = some p := ⟨_, List.getElem?_eq_getElem hj⟩
    have hpm := List.mem_of_getElem? hp
    have hi : 0 ≤ p.1 ∧ p.1 < 14 := by simpa [hasP] using chkFrom_ok hc p hpm
    have hn := h1.nlen
    rw [planP_snoc S hp]
    refine ⟨W ++ [(freeK (planP S (ps.take j)).K, p.2)], h1.lay (by omega) (hwf p hpm) (by simp [hn]), by simp [h2], ?_, fun i hi14 => ?_⟩
    · show ((planP S (ps.take j)).N.set (3 + p.1.toNat) _).getD 0 0 = _
      rw [getD_set_other (by omega)]
      exact h3
    · have e : ps.take (j + 1) = ps.take j ++ [p] := by
        have hlt : j < ps.length := hj
        rw [List.take_succ_eq_append_getElem hlt, (List.getElem?_eq_some_iff.1 hp).2]
      rw [e, lookP_snoc]
      show match (if p.1 = (i : Int) then some p.2 else lookP (ps.take j) i) with
        | some ws => ∃ k, (k, ws) ∈ W ++ [(freeK (planP S (ps.take j)).K, p.2)] ∧ ((planP S (ps.take j)).N.set (3 + p.1.toNat) (freeK (planP S (ps.take j)).K : Nat)).getD (3 + i) 0 = (k : Int)
        | none => ((planP S (ps.take j)).N.set (3 + p.1.toNat) (freeK (planP S (ps.take j)).K : Nat)).getD (3 + i) 0 = (pgS S).getD i 0
      by_cases hpi : p.1 = (i : Int)
      · rw [if_pos hpi]
        refine ⟨freeK (planP S (ps.take j)).K, by simp, ?_⟩
        rw [show 3 + p.1.toNat = 3 + i by omega, getD_set_same (by omega)]
      · rw [if_neg hpi, getD_set_other (by omega)]
        have := h4 i hi14
        split at this
        · rename_i ws hws
          obtain ⟨k, hk1, hk2⟩ := this
          exact ⟨k, List.mem_append_left _ hk1, hk2⟩
        · exact this
end E
end Go.Proofs.YtmplkogkphmmjafGreat
