/- What a call leaves alone: 'Keep fp w w'': of the blocks that lay there in w none but those of fp has turned in w'. And the law of append for the engine. -/
import Derived.Test.YthidfgolcibcoacDoorOps
import Derived.Below
namespace Go.Proofs.YthidfgolcibcoacDoor
set_option maxRecDepth 20000
set_option maxHeartbeats 4000000
namespace E

structure Keep (fp : List Nat) (w w' : World) : Prop where
  os : w'.os = w.os
  tape : w'.tape = w.tape
  output : w'.output = w.output
  size : w.heap.size ≤ w'.heap.size
  block : ∀ k, k < w.heap.size → k ∉ fp → w'.heap[k]? = w.heap[k]?

section
variable {fp fp' : List Nat} {w w' w'' : World}
theorem Keep.refl (fp : List Nat) (w : World) : Keep fp w w := ⟨rfl, rfl, rfl, Nat.le_refl _, fun _ _ _ => rfl⟩
theorem Keep.trans (h : Keep fp w w') (h' : Keep fp' w' w'') (hf : ∀ k ∈ fp', k ∈ fp ∨ w.heap.size ≤ k) : Keep fp w w'' :=
  ⟨h'.os.trans h.os, h'.tape.trans h.tape, h'.output.trans h.output, Nat.le_trans h.size h'.size, fun k hk hn =>
    (h'.block k (Nat.lt_of_lt_of_le hk h.size) (fun hm => (hf k hm).elim hn fun h1 => absurd hk (Nat.not_lt.2 h1))).trans (h.block k hk hn)⟩
theorem Keep.tr (h : Keep fp w w') (h' : Keep fp w' w'') : Keep fp w w'' := h.trans h' fun _ hk => .inl hk
theorem Keep.tr0 (h : Keep fp w w') (h' : Keep [] w' w'') : Keep fp w w'' := h.trans h' fun _ hk => by cases hk
theorem Keep.mono (h : Keep fp w w') (hf : ∀ k ∈ fp, k ∈ fp' ∨ w.heap.size ≤ k) : Keep fp' w w' := (Keep.refl fp' w).trans h hf
theorem Keep.of0 (h : Keep [] w w') : Keep fp w w' := h.mono fun _ hk => by cases hk
theorem Keep.drew (h : Keep fp w w') : Keep fp w w'.drew := ⟨h.os, h.tape, h.output, h.size, h.block⟩
theorem Keep.alloc (h : Keep fp w w') (ob : Obj) : Keep fp w (w'.alloc ob) :=
  ⟨h.os, h.tape, h.output, by rw [World.size_alloc]; exact Nat.le_succ_of_le h.size, fun k hk hn => (heap_alloc_old w' ob k (Nat.lt_of_lt_of_le hk h.size)).trans (h.block k hk hn)⟩
theorem setRow_size (w : World) (b : Nat) (X : Array Value) : (w.setRow b X).heap.size = w.heap.size := by simp [World.setRow]
theorem Keep.setRow (h : Keep fp w w') (b : Nat) (X : Array Value) (hb : b ∈ fp ∨ w.heap.size ≤ b) : Keep fp w (w'.setRow b X) :=
  ⟨h.os, h.tape, h.output, by rw [setRow_size]; exact h.size, fun k hk hn => by
    have hne : k ≠ b := fun e => hb.elim (fun h1 => hn (e ▸ h1)) fun h1 => absurd hk (Nat.not_lt.2 (e ▸ h1))
    rw [setRow_other _ b k X hne]; exact h.block k hk hn⟩
theorem Keep.grown {row : Option Nat} (h : Keep fp w w') (hg : w'.grownBy w'' row) (hr : ∀ k, row = some k → k ∈ fp ∨ w.heap.size ≤ k) : Keep fp w w'' :=
  ⟨hg.os.trans h.os, hg.tape.trans h.tape, hg.output.trans h.output, Nat.le_trans h.size hg.size, fun k hk hn =>
    (hg.block k (Nat.lt_of_lt_of_le hk h.size) (fun e => (hr k e.symm).elim hn fun h1 => absurd hk (Nat.not_lt.2 h1))).trans (h.block k hk hn)⟩
theorem Keep.blk (h : Keep fp w w') {b : Nat} {L : List Value} {e : TypeId} (hb : Blk w b L e) (hn : b ∉ fp) : Blk w' b L e := (h.block b hb.lt hn).trans hb
theorem Keep.owns (h : Keep fp w w') {base e size n : Nat} {v : Value} {xs : List Value} (ho : w.ownsRow base e size v n xs) (hn : ∀ k, v.ownBlock = some k → k ∉ fp) : w'.ownsRow base e size v n xs := by
  refine ⟨ho.1, ?_⟩
  rcases ho.2 with h0 | ⟨g, cap, cur, rfl, hb, hg, r⟩
  · exact .inl h0
  · refine .inr ⟨g, cap, cur, rfl, hb, ?_, r⟩
    rw [h.block g (Array.getElem?_eq_some_iff.1 hg).1 (hn g rfl)]
    exact hg
theorem Keep.below (h : Keep fp w w') (hf : ∀ k ∈ fp, w.heap.size ≤ k) : Go.RowKit.Below w.heap.size w w' :=
  ⟨h.os, h.tape, h.output, h.size, fun k hk => h.block k hk fun hm => by have := hf k hm; omega⟩
end

theorem owns_range {w : World} {base e size n g cap q : Nat} {xs cs : List Value} (h : w.ownsRow base e size (.slice (some ⟨g, 0, none⟩) n cap) n xs) (hc : (xs.drop q).take cs.length = cs) : w.rangeAt g q cs := fun j u hu => by
  rw [← hc, List.getElem?_take] at hu
  split at hu
  · have := h.cells (g := g) rfl (q + j) u (by simpa using hu)
    rwa [Addr.add_mid, Nat.zero_add] at this
  · cases hu

theorem flat_at {α : Type} {f : α → List Value} {k : Nat} : ∀ {L : List α} {j : Nat} {p : α}, (∀ p ∈ L, (f p).length = k) → L[j]? = some p → ((L.flatMap f).drop (j * k)).take k = f p
  | [], _, _, _, h => by simp at h
  | a :: r, 0, p, hk, h => by
    simp at h
    subst h
    have := hk a (by simp)
    simp [← this]
  | a :: r, j + 1, p, hk, h => by
    simp only [List.getElem?_cons_succ] at h
    have ha := hk a (by simp)
    have ih := flat_at (f := f) (k := k) (fun p hp => hk p (List.mem_cons_of_mem _ hp)) h
    rw [List.flatMap_cons, Nat.succ_mul, Nat.add_comm, ← List.drop_drop]
    rw [← ha, List.drop_left, ha]
    exact ih

theorem flat_length {α : Type} {f : α → List Value} {k : Nat} : ∀ {L : List α}, (∀ p ∈ L, (f p).length = k) → (L.flatMap f).length = L.length * k
  | [], _ => by simp
  | a :: r, hk => by
    rw [List.flatMap_cons, List.length_append, hk a (by simp), flat_length fun p hp => hk p (List.mem_cons_of_mem _ hp), List.length_cons, Nat.succ_mul]
    omega

/-! ### append -/
def appOk (P : Program) (t e size bytes : Nat) : Bool :=
  match P.underlying t with
  | some (.slice e') => e' == e && (match P.info? e with
    | some i => i.size == size && i.bytes == bytes && (match i.zero with | some z => z.cells.size == size | none => false)
    | none => false)
  | _ => false

theorem appOk_run {P : Program} {t e size bytes : Nat} (h : appOk P t e size bytes = true) :
    ∃ i z, P.underlying t = some (.slice e) ∧ P.info? e = some i ∧ i.zero = some z ∧ i.size = size ∧ i.bytes = bytes ∧ z.cells.size = size := by
  unfold appOk at h
  split at h
  · rename_i e' hu
    simp only [Bool.and_eq_true, beq_iff_eq] at h
    obtain ⟨rfl, h⟩ := h
    split at h
    · rename_i i hi
      simp only [Bool.and_eq_true, beq_iff_eq] at h
      obtain ⟨⟨h1, h2⟩, h3⟩ := h
      split at h3
      · rename_i z hz
        exact ⟨i, z, hu, hi, hz, h1, h2, by simpa using h3⟩
      · cases h3
    · cases h
  · cases h

theorem opTo_append {P : Program} {n : Nat} {σ : Env} {o : Oper} {w : World} {v : Value} {t : TypeId} {s x : Operand} {b q m c ln : Nat} {K : Value → World → Prop} (base e size bytes : Nat) (xs news : List Value)
    (ho : o.op = .call { callee := .builtin .append, args := #[s, x], argTypes := #[t, t] }) (hs : ev σ s = some v) (hx : ev σ x = some (.slice (some ⟨b, q, none⟩) m c))
    (hP : appOk P t e size bytes = true) (hsz : 0 < size) (hown : w.ownsRow base e size v ln xs) (hnews : w.rangeAt b q news) (hl : news.length = m * size) (h1 : ∀ u ∈ news, u.oneCell' = true)
    (hm : 0 < m) (h63 : ln + m ≤ maxLen) (hbytes : (ln + m) * bytes ≤ 140737488355328) (hbase : base ≤ w.heap.size)
    (hK : ∀ g cap w', w'.ownsRow base e size (.slice (some ⟨g, 0, none⟩) (ln + m) cap) (ln + m) (xs ++ news) → w.grownBy w' v.ownBlock → (v.ownBlock = some g ∨ g = w.heap.size) → g < w'.heap.size → K (.slice (some ⟨g, 0, none⟩) (ln + m) cap) w') : OpTo P n σ o w K := by
  obtain ⟨i, z, hu, hi, hz, hsize, hby, hzs⟩ := appOk_run hP
  obtain ⟨g, cap, w', hr, h2, h3, h4, h5⟩ := run_append_lies (P := P) w t o.type base e i z size bytes hu hi hz hsize hby hzs hsz v ln xs hown ⟨b, q, none⟩ m c news hl (fun j u hj => by rw [Addr.add_mid]; exact hnews j u hj) h1 hm h63 hbytes hbase _ rfl
  refine opTo_run (w' := w') (v := .slice (some ⟨g, 0, none⟩) (ln + m) cap) (fun a ha => ?_) (hK g cap w' h2 h3 h4 h5)
  simp [execOp, ho, resolve, invoke, builtin, ha.eval hs, ha.eval hx, hr]
end E
end Go.Proofs.YthidfgolcibcoacDoor
