/- The list of steps that a law of a disk is handed, as it lies in memory; and what becomes of a disk by them. -/
import Derived.Test.YtoegglcdpdohdaaDiskF
namespace Go.Proofs.Ytoegglcdpdohdaa
namespace E
open Go.Proofs

/-- A step: what to do, a sector, words, a mask. -/
structure DStep where
  d : Int
  a : Int
  ws : List Int
  m : Int

def scell (s : DStep) : List Value := .int .i64 s.d :: .int .i64 s.a :: (ints s.ws ++ [.int .u64 s.m])
def scells (st : List DStep) : List Value := st.flatMap scell

structure ArgS (w : World) (lv : Value) (st : List DStep) : Prop where
  ex : ∃ a cap, lv = .slice a st.length cap ∧ (st ≠ [] → ∃ b q, a = some ⟨b, q, none⟩ ∧ b < w.heap.size ∧ w.rangeAt b q (scells st))
  wf : ∀ s ∈ st, s.ws.length = 8

theorem scell_length {s : DStep} (h : s.ws.length = 8) : (scell s).length = 11 := by simp [scell, ints_length, h]

theorem Keep.range {fp : List Nat} {w w' : World} (h : Keep fp w w') {b q : Nat} {cs : List Value} (hr : w.rangeAt b q cs) (hlt : b < w.heap.size) (hn : b ∉ fp) : w'.rangeAt b q cs := fun j v hv => by
  rw [World.cell?_of_block (w := w) (h.block b hlt hn)]
  exact hr j v hv

theorem range_sub {w : World} {b q : Nat} {cs ds : List Value} (h : w.rangeAt b q cs) (k : Nat) (hd : (cs.drop k).take ds.length = ds) : w.rangeAt b (q + k) ds := fun j v hv => by
  rw [Nat.add_assoc]
  refine h (k + j) v ?_
  rw [← hd, List.getElem?_take] at hv
  split at hv
  · simpa using hv
  · cases hv

theorem ArgS.keep {w w' : World} {lv : Value} {st : List DStep} (h : ArgS w lv st) (hk : Keep [] w w') : ArgS w' lv st := by
  obtain ⟨a, cap, hv, hm⟩ := h.ex
  refine ⟨⟨a, cap, hv, fun hn => ?_⟩, h.wf⟩
  obtain ⟨b, q, ha, hlt, hr⟩ := hm hn
  exact ⟨b, q, ha, Nat.lt_of_lt_of_le hlt hk.size, hk.range hr hlt (by simp)⟩

theorem ArgS.at {w : World} {lv : Value} {st : List DStep} (h : ArgS w lv st) {j : Nat} {s : DStep} (hs : st[j]? = some s) :
    ∃ b q cap, lv = .slice (some ⟨b, q, none⟩) st.length cap ∧ b < w.heap.size ∧ w.rangeAt b (q + j * 11) (scell s) := by
  obtain ⟨a, cap, hv, hm⟩ := h.ex
  obtain ⟨b, q, ha, hlt, hr⟩ := hm (by intro e; simp [e] at hs)
  refine ⟨b, q, cap, by rw [hv, ha], hlt, range_sub hr (j * 11) ?_⟩
  rw [scell_length (h.wf s (List.mem_of_getElem? hs))]
  exact flat_at (fun p hp => scell_length (h.wf p hp)) hs

/-- One step, by the document. -/
def stepD (x : List Int × List Wr) (s : DStep) : List Int × List Wr :=
  if s.d = 0 then (x.1, if hasB s.a then x.2 ++ [(s.a.toNat, s.ws)] else x.2)
  else if s.d = 1 then (settled (fun _ => true) x.2 x.1, [])
  else if s.d = 2 then (settled (maskB s.m) x.2 x.1, [])
  else x

def runD (st : List DStep) : List Int × List Wr := st.foldl stepD (S0, [])

theorem runD_snoc {st : List DStep} {j : Nat} {s : DStep} (hs : st[j]? = some s) : runD (st.take (j + 1)) = stepD (runD (st.take j)) s := by
  have hlt : j < st.length := (List.getElem?_eq_some_iff.1 hs).1
  have hj : st[j] = s := (List.getElem?_eq_some_iff.1 hs).2
  rw [List.take_succ_eq_append_getElem hlt, runD, List.foldl_append, hj]
  rfl

theorem stepD_len (x : List Int × List Wr) (s : DStep) : (stepD x s).2.length ≤ x.2.length + 1 := by
  unfold stepD
  (repeat' split) <;> simp

theorem runD_len (st : List DStep) : ∀ j, (runD (st.take j)).2.length ≤ j
  | 0 => by simp [runD]
  | j + 1 => by
    rcases Nat.lt_or_ge j st.length with h | h
    · have := stepD_len (runD (st.take j)) st[j]
      rw [← runD_snoc (List.getElem?_eq_getElem h)] at this
      have := runD_len st j
      omega
    · rw [List.take_of_length_le (by omega), ← List.take_of_length_le h]
      exact Nat.le_succ_of_le (runD_len st j)
end E
end Go.Proofs.Ytoegglcdpdohdaa
