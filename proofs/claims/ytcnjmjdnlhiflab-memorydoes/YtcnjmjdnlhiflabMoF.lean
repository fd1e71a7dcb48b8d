/- The memory and the document's side by side, as MemoryDoes keeps them; how they go on. -/
import Derived.Test.YtcnjmjdnlhiflabMoE
namespace Go.Proofs.Ytcnjmjdnlhiflab
set_option maxRecDepth 20000
namespace E
open Go.Proofs

theorem fpD_blk {B : Nat} {w : World} {d : Nat} {S : List Int} {L : List Wr} {wv : Value} (h : DiskV B w d S L wv) : ∀ k ∈ fpD d wv, ∃ M e, Blk w k M e ∧ [73, 104].contains e = true := by
  intro k hk
  simp only [fpD, List.mem_cons, Option.mem_toList] at hk
  rcases hk with rfl | hk
  · exact ⟨_, _, h.blk, by decide⟩
  · rcases h.owns.2 with ⟨h1, _⟩ | ⟨g, cap, cur, h1, _, hg, _⟩
    · rw [h1] at hk
      simp [Value.ownBlock] at hk
    · rw [h1] at hk
      simp [Value.ownBlock] at hk
      subst hk
      refine ⟨cur.toList, 104, ?_, by decide⟩
      unfold Blk
      rw [Array.toArray_toList]
      exact hg

section
variable {B : Nat} {w w' : World} {d s m : Nat} {S W : List Int} {D : List Bool} {wv : Value} {fp ts : List Nat}
theorem DiskV.typ {L : List Wr} (h : DiskV B w d S L wv) (hk : Keep fp w w') (ho : Off w fp ts) (ht : (ts.contains 73 || ts.contains 104) = false) : DiskV B w' d S L wv := h.keep hk fun k hk1 hm => by
  obtain ⟨M, e, hb, he⟩ := fpD_blk h k hk1
  have := ho k hm M e hb
  simp only [Bool.or_eq_false_iff] at ht
  simp at he
  rcases he with rfl | rfl
  · rw [ht.1] at this; cases this
  · rw [ht.2] at this; cases this
theorem St.typ (h : St B w d s m S W D wv) (hk : Keep fp w w') (ho : Off w fp ts) (h1 : ts.contains 67 = false) (h2 : ts.contains 75 = false) (h3 : (ts.contains 73 || ts.contains 104) = false) : St B w' d s m S W D wv :=
  ⟨⟨hk.typ ho h.mem.blk h1, h.mem.wl, h.mem.dl⟩, hk.typ ho h.sto h2, h.dsk.typ hk ho h3, h.good, h.tied, h.hm⟩
end

theorem ints_at {W : List Int} {i : Nat} (h : i < W.length) : (ints W)[0 + i * 1]? = some (.int .i64 (W.getD i 0)) := by
  rw [Nat.mul_one, Nat.zero_add, List.getD_eq_getElem?_getD, List.getElem?_eq_getElem h]
  simp only [ints, List.getElem?_map, List.getElem?_eq_getElem h]
  rfl
theorem bools_at {D : List Bool} {i : Nat} (h : i < D.length) : (bools D)[0 + i * 1]? = some (.bool (D.getD i false)) := by
  rw [Nat.mul_one, Nat.zero_add, List.getD_eq_getElem?_getD, List.getElem?_eq_getElem h]
  simp only [bools, List.getElem?_map, List.getElem?_eq_getElem h]
  rfl

/-- The places of the variables lie behind what was there. -/
def Lo (w0 : World) (c : Cfg) : Prop := w0.heap.size ≤ c.d ∧ w0.heap.size ≤ c.vb ∧ w0.heap.size ≤ c.bm ∧ w0.heap.size ≤ c.bt ∧ w0.heap.size ≤ c.g

structure Duo (w0 w : World) (c : Cfg) (s m : Nat) (S W : List Int) (D : List Bool) (wv : Value) (P X : Nat → List Int) (n : Nat) : Prop where
  keep : Keep [] w0 w
  st : St c.d w c.d s m S W D wv
  fx : Fx w c m W D (genS S) P X false
  fP : Full P
  fX : Full X
  read : ∀ i, i < 14 → readS S (i : Nat) = P i
  gen : genS S ≤ n

section
variable {w0 w w' : World} {c : Cfg} {s m : Nat} {S W : List Int} {D : List Bool} {wv : Value} {P X : Nat → List Int} {n : Nat}
theorem Duo.ext (h : Duo w0 w c s m S W D wv P X n) (hk : Keep [] w w') : Duo w0 w' c s m S W D wv P X n := ⟨h.keep.tr0 hk, h.st.keep0 hk, h.fx.keep0 hk, h.fP, h.fX, h.read, h.gen⟩
theorem Duo.up (h : Duo w0 w c s m S W D wv P X n) {k : Nat} (hk : n ≤ k) : Duo w0 w c s m S W D wv P X k := ⟨h.keep, h.st, h.fx, h.fP, h.fX, h.read, by have := h.gen; omega⟩
theorem Duo.newP (h : Duo w0 w c s m S W D wv P X n) : ∀ i, i < 14 → newP (dirtyPs W D) P i = page W i := fun i hi => by
  unfold E.newP dirtyPs
  rw [lookI_dirtyTo]
  cases hb : D.getD i false with
  | true => rw [if_pos ⟨hi, rfl⟩]; rfl
  | false =>
    rw [if_neg (by simp)]
    show P i = page W i
    rw [← h.read i hi]
    exact h.st.tied i hi hb
theorem Duo.wf (h : Duo w0 w c s m S W D wv P X n) : ∀ p ∈ dirtyPs W D, p.2.length = 8 := dirtyTo_wf h.st.mem.wl D (by decide)
theorem dirtyPs_len (W : List Int) (D : List Bool) : (dirtyPs W D).length ≤ 14 := dirtyTo_len W D 14
end

/-- Ahead of a crash: what the crash makes of the disk, and of the document's store, is the same. -/
def Torn (w0 w : World) (c : Cfg) (m : Nat) (mask : Int) (n : Nat) : Prop :=
  ∃ S1 L1 wv1 W D gen P X b, Keep [] w0 w ∧ DiskV c.d w c.d S1 L1 wv1 ∧ L1.length < 1000000 ∧ Fx w c m W D gen P X b ∧ W.length = 112 ∧ D.length = 14 ∧ Full P ∧ Full X ∧ 0 ≤ gen ∧ gen < n ∧
    Good (settled (maskB mask) L1 S1) ∧ genS (settled (maskB mask) L1 S1) = (if b = true ∧ maskB mask 0 = true then gen + 1 else gen) ∧
    ∀ i, i < 14 → readS (settled (maskB mask) L1 S1) (i : Nat) = if b = true ∧ maskB mask 0 = true then X i else P i

section
variable {w0 w w' : World} {c : Cfg} {s m : Nat} {S W : List Int} {D : List Bool} {wv : Value} {P X : Nat → List Int} {n : Nat}

theorem Duo.torn (h : Duo w0 w c s m S W D wv P X n) (mask : Int) : Torn w0 w c m mask (n + 1) := by
  refine ⟨S, [], wv, W, D, genS S, P, X, false, h.keep, h.st.dsk, by decide, h.fx, h.st.mem.wl, h.st.mem.dl, h.fP, h.fX, genS_nonneg S, by have := h.gen; omega, ?_, ?_, ?_⟩
  · rw [settled_nil]; exact h.st.good
  · rw [settled_nil]; simp
  · rw [settled_nil]; simpa using h.read

/-- Behind the document's commit and the memory's sync, where it was done. -/
theorem Duo.done (h : Duo w0 w c s m S W D wv P X n) (hlo : Lo w0 c) {w1 w2 : World} {S2 : List Int} {wv2 : Value} (hk1 : Keep [c.vb] w w1) (hv1 : Blk w1 c.vb (vcells (genS S + 1) (E.newP (dirtyPs W D) P) false X) 48)
    (hk2 : Keep (m :: fpD c.d wv) w1 w2) (h2 : St c.d w2 c.d s m S2 W (List.replicate 14 false) wv2) (hg : genS S2 = genS S + 1) :
    Duo w0 (w2.setRow c.bt (bools (List.replicate 14 false)).toArray) c s m S2 W (List.replicate 14 false) wv2 (E.newP (dirtyPs W D) P) X (n + 1) := by
  have hf1 := h.fx.setVault hk1 hv1
  have hs1 : St c.d w1 c.d s m S W D wv := h.st.typ hk1 (Off.one h.fx.vault) (by decide) (by decide) (by decide)
  have hf2 := hf1.keep hk2 (Off.cons hs1.mem.blk (Off.disk hs1.dsk)) (by decide)
  have hk3 := keep_row (w := w2) (b := c.bt) (bools (List.replicate 14 false)).toArray
  have h3 := h2.typ hk3 (Off.one hf2.dirt) (by decide) (by decide) (by decide)
  have hf3 := hf2.setDirt (List.replicate 14 false)
  obtain ⟨l1, l2, l3, l4, l5⟩ := hlo
  have hkw : Keep [] w0 w2 := (h.keep.trans hk1 fun k hk => .inr (by simp at hk; omega)).trans hk2 fun k hk => .inr (Nat.le_trans l1 (hs1.fp k hk))
  refine ⟨hkw.setRow _ _ (.inr l4), h3, by rw [hg]; exact hf3, newP_full h.wf h.fP, h.fX, fun i hi => ?_, by have := h.gen; omega⟩
  rw [h.newP i hi]
  exact h2.tied i hi (by rw [List.getD_eq_getElem?_getD, List.getElem?_replicate, if_pos hi]; rfl)

/-- Behind the document's commit and the memory's sync, where it was left off. -/
theorem Duo.left (h : Duo w0 w c s m S W D wv P X n) (hlo : Lo w0 c) {may : Int} (hmay : doneB (dirtyPs W D) may = false) {w1 w2 : World} {wv2 : Value} (hk1 : Keep [c.vb] w w1)
    (hv1 : Blk w1 c.vb (vcells (genS S) P (decide (may = ((dirtyPs W D).length + 4 : Nat))) (E.newP (dirtyPs W D) P)) 48)
    (hk2 : Keep (m :: fpD c.d wv) w1 w2) (h2 : DiskV c.d w2 c.d (doDeeds ((deedsOf S (dirtyPs W D)).take (deedsN (dirtyPs W D) may)) (S, [])).1 (doDeeds ((deedsOf S (dirtyPs W D)).take (deedsN (dirtyPs W D) may)) (S, [])).2 wv2) (mask : Int) :
    Torn w0 w2 c m mask (n + 1) := by
  have hf1 := h.fx.setVault hk1 hv1
  have hs1 : St c.d w1 c.d s m S W D wv := h.st.typ hk1 (Off.one h.fx.vault) (by decide) (by decide) (by decide)
  have hf2 := hf1.keep hk2 (Off.cons hs1.mem.blk (Off.disk hs1.dsk)) (by decide)
  obtain ⟨l1, l2, l3, l4, l5⟩ := hlo
  have hkw : Keep [] w0 w2 := (h.keep.trans hk1 fun k hk => .inr (by simp at hk; omega)).trans hk2 fun k hk => .inr (Nat.le_trans l1 (hs1.fp k hk))
  have hno : ¬ (may < 0 ∨ may ≥ ((dirtyPs W D).length + 5 : Nat)) := by simpa [doneB] using hmay
  have hdn : deedsN (dirtyPs W D) may = may.toNat := by unfold deedsN; rw [if_neg hno]
  have hwf : ∀ p ∈ dirtyPs W D, p.2.length = 8 := h.wf
  obtain ⟨_, htorn⟩ := commit_view h.st.good (chk_dirty W D) hwf
  obtain ⟨hN, hSm⟩ := htorn may.toNat (by omega) (maskB mask)
  rw [hdn] at h2
  have hll := doDeeds_len ((deedsOf S (dirtyPs W D)).take may.toNat) (S, [])
  have hl19 : ((deedsOf S (dirtyPs W D)).take may.toNat).length ≤ 19 := by
    rw [List.length_take, deedsOf_len]
    have := dirtyPs_len W D
    omega
  have hfX : Full (E.newP (dirtyPs W D) P) := newP_full h.wf h.fP
  refine ⟨_, _, wv2, W, D, genS S, P, E.newP (dirtyPs W D) P, _, hkw, h2, by simp only [List.length_nil] at hll; omega, hf2, h.st.mem.wl, h.st.mem.dl, h.fP, hfX, genS_nonneg S, by have := h.gen; omega, ?_⟩
  have hiff : (decide (may = ((dirtyPs W D).length + 4 : Nat)) = true ∧ maskB mask 0 = true) ↔ (may.toNat = (dirtyPs W D).length + 4 ∧ maskB mask 0 = true) := by
    rw [decide_eq_true_iff]
    constructor
    · rintro ⟨h1, h2⟩
      exact ⟨by omega, h2⟩
    · rintro ⟨h1, h2⟩
      exact ⟨by omega, h2⟩
  by_cases hc : may.toNat = (dirtyPs W D).length + 4 ∧ maskB mask 0 = true
  · have hn := hN hc
    refine ⟨hn.good, by rw [if_pos (hiff.2 hc)]; exact hn.gen, fun i hi => ?_⟩
    rw [if_pos (hiff.2 hc), hn.all h.st.tied i hi, h.newP i hi]
  · have hn := hSm hc
    refine ⟨hn.good, by rw [if_neg fun h => hc (hiff.1 h)]; exact hn.gen, fun i hi => ?_⟩
    rw [if_neg fun h => hc (hiff.1 h), hn.read, h.read i hi]
end
end E
end Go.Proofs.Ytcnjmjdnlhiflab
