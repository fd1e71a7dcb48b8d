/- Sectors of a disk: plain mathematics, with no law's function. -/
import Derived.Test.YtcnjmjdnlhiflabDiskE
import Derived.Test.YtcnjmjdnlhiflabOps2
import Derived.Test.YtcnjmjdnlhiflabOwn
namespace Go.Proofs.Ytcnjmjdnlhiflab
set_option maxRecDepth 20000
namespace E
open Go.Proofs

theorem Keep.range {fp : List Nat} {w w' : World} (h : Keep fp w w') {b q : Nat} {cs : List Value} (hr : w.rangeAt b q cs) (hlt : b < w.heap.size) (hn : b ∉ fp) : w'.rangeAt b q cs := fun j v hv => by
  rw [World.cell?_of_block (w := w) (h.block b hlt hn)]
  exact hr j v hv

theorem range_sub {w : World} {b q : Nat} {cs ds : List Value} (h : w.rangeAt b q cs) (k : Nat) (hd : (cs.drop k).take ds.length = ds) : w.rangeAt b (q + k) ds := fun j v hv => by
  rw [Nat.add_assoc]
  refine h (k + j) v ?_
  rw [← hd, List.getElem?_take] at hv
  split at hv
  · simpa using hv
  · cases hv

def sector (S : List Int) (k : Nat) : List Int := (S.drop (k * 8)).take 8
theorem sector_length {S : List Int} (h : S.length = 272) {k : Nat} (hk : k < 34) : (sector S k).length = 8 := by simp [sector, h]; omega

theorem settled_nil (stays : Nat → Bool) (S : List Int) : settled stays [] S = S := rfl

theorem sure_at {B : Nat} {w : World} {g cap : Nat} {S : List Int} (h : w.ownsRow B 37 8 (.slice (some ⟨g, 0, none⟩) 34 cap) 34 (ints S)) (hS : S.length = 272) {k : Nat} (hk : k < 34) : w.rangeAt g (0 + k * 8) (ints (sector S k)) := by
  refine owns_range h ?_
  rw [Nat.zero_add, ints_length, sector_length hS hk]
  simp [sector, ints, List.map_take, List.map_drop]

theorem readD_nil {S : List Int} {k : Nat} (hk : k < 34) : readD S [] (k : Nat) = sector S k := by
  have hb : hasB ((k : Nat) : Int) = true := by simp [hasB]; omega
  simp [readD, hb, lastOf, sector]

theorem arrW : arrInt Try.prog 37 8 = true := by decide +kernel

theorem sector_upd {S : List Int} {p : Wr} {k : Nat} (hS : S.length = 272) (hp : p.1 < 34 ∧ p.2.length = 8) (hk : k < 34) : sector (upd S p) k = if p.1 = k then p.2 else sector S k := by
  obtain ⟨a, ws⟩ := p
  simp only at hp ⊢
  unfold sector upd
  simp only
  apply List.ext_getElem?
  intro j
  by_cases e : a = k
  · subst e
    simp only [if_true, List.getElem?_take, List.getElem?_drop]
    split
    · rename_i hj
      rw [List.getElem?_append_left (by simp [hS, hp.2]; omega), List.getElem?_append_right (by simp [hS]; omega)]
      congr 1
      simp [hS]; omega
    · rename_i hj
      rw [List.getElem?_eq_none (by omega)]
  · simp only [e, if_false, List.getElem?_take, List.getElem?_drop]
    split
    · rename_i hj
      rcases Nat.lt_or_gt_of_ne e with h | h
      · rw [List.getElem?_append_right (by simp [hS, hp.2]; omega), List.getElem?_drop]
        congr 1
        simp [hS, hp.2]; omega
      · rw [List.append_assoc, List.getElem?_append_left (by simp [hS]; omega), List.getElem?_take, if_pos (by omega)]
    · rfl

end E
end Go.Proofs.Ytcnjmjdnlhiflab
