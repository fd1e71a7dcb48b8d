/- Plain mathematics of a memory: its words by pages, its dirty pages, what a sync makes of the store. -/
import Derived.Test.YtcnjmjdnlhiflabMoB
namespace Go.Proofs.Ytcnjmjdnlhiflab
set_option maxRecDepth 20000
namespace E

theorem page_at {W : List Int} {n k : Nat} (hk : k < 8) : (page W n)[k]? = W[n * 8 + k]? := by
  unfold page
  rw [List.getElem?_take, if_pos hk, List.getElem?_drop]
theorem pages_take (W : List Int) : ∀ j, (List.range j).flatMap (page W) = W.take (j * 8)
  | 0 => by simp
  | j + 1 => by
    rw [List.range_succ, List.flatMap_append, pages_take W j, Nat.succ_mul, List.take_add]
    simp [page]
theorem pages_all {W : List Int} (h : W.length = 112) : (List.range 14).flatMap (page W) = W := by
  rw [pages_take, List.take_of_length_le (by omega)]
theorem allS_eq {S W : List Int} (hW : W.length = 112) (h : ∀ n, n < 14 → readS S (n : Nat) = page W n) : allS S = W := by
  rw [← pages_all hW]
  unfold allS catS
  rw [List.flatMap_def, List.flatMap_def]
  congr 1
  exact List.map_congr_left fun x hx => h x (List.mem_range.1 hx)
theorem page_allS {S : List Int} (hS : S.length = 272) {n : Nat} (hn : n < 14) : page (allS S) n = readS S (n : Nat) := by
  unfold page allS catS
  have : ∀ (l : List Nat) (j : Nat) (p : Nat), l[j]? = some p → ((l.flatMap fun i => readS S (i : Nat)).drop (j * 8)).take 8 = readS S (p : Nat) := by
    intro l
    induction l with
    | nil => intro j p h; simp at h
    | cons a r ih =>
      intro j p h
      cases j with
      | zero =>
        simp at h
        subst h
        have := readS_length hS (a : Nat)
        rw [List.flatMap_cons, Nat.zero_mul, List.drop_zero, List.take_append_of_le_length (by omega), List.take_of_length_le (by omega)]
      | succ j =>
        simp only [List.getElem?_cons_succ] at h
        have h8 := readS_length hS (a : Nat)
        rw [List.flatMap_cons, Nat.succ_mul, Nat.add_comm, ← List.drop_drop, ← h8, List.drop_left, h8]
        exact ih j p h
  exact this _ n n (by rw [List.getElem?_range hn])
theorem allS_length {S : List Int} (hS : S.length = 272) : (allS S).length = 112 := by rw [allS, catS_length hS]

/-- The pages that are not dirty are as the store has them. -/
def Tied (S W : List Int) (D : List Bool) : Prop := ∀ n, n < 14 → D.getD n false = false → readS S (n : Nat) = page W n

theorem lookI_dirtyTo (W : List Int) (D : List Bool) : ∀ (j n : Nat), lookI (dirtyTo W D j) (n : Nat) = if n < j ∧ D.getD n false = true then some (page W n) else none
  | 0, n => by simp [dirtyTo, lookI]
  | j + 1, n => by
    rw [dirtyTo_succ]
    have ih := lookI_dirtyTo W D j n
    cases hb : D.getD j false with
    | false =>
      rw [if_neg (by simp), ih]
      by_cases e : n = j
      · subst e
        rw [if_neg (by omega), if_neg (by rw [hb]; simp)]
      · have : (n < j + 1 ∧ D.getD n false = true) ↔ (n < j ∧ D.getD n false = true) := by constructor <;> (rintro ⟨h1, h2⟩; exact ⟨by omega, h2⟩)
        simp only [this]
    | true =>
      rw [if_pos rfl, lookI_snoc]
      by_cases e : n = j
      · subst e
        rw [if_pos rfl, if_pos ⟨by omega, hb⟩]
      · rw [if_neg (by simp only; omega), ih]
        have : (n < j + 1 ∧ D.getD n false = true) ↔ (n < j ∧ D.getD n false = true) := by constructor <;> (rintro ⟨h1, h2⟩; exact ⟨by omega, h2⟩)
        simp only [this]

theorem chkFrom_snoc : ∀ (ps : List Pg) (done : List Int) (p : Pg), chkFrom done ps = 0 → hasP p.1 = true → (done ++ ps.map (·.1)).contains p.1 = false → chkFrom done (ps ++ [p]) = 0
  | [], done, p, _, h2, h3 => by
    simp only [List.map_nil, List.append_nil] at h3
    simp only [List.nil_append, chkFrom]
    rw [if_neg (by simp [h2]), if_neg (by rw [h3]; simp)]
  | q :: r, done, p, h1, h2, h3 => by
    unfold chkFrom at h1
    simp only [List.cons_append]
    unfold chkFrom
    split at h1
    · cases h1
    · rename_i hq
      split at h1
      · cases h1
      · rename_i hc
        rw [if_neg hq, if_neg hc]
        exact chkFrom_snoc r _ p h1 h2 (by simpa [List.append_assoc] using h3)

theorem chk_dirtyTo (W : List Int) (D : List Bool) : ∀ j, j ≤ 14 → chk (dirtyTo W D j) = 0
  | 0, _ => by simp [dirtyTo, chk, chkFrom]
  | j + 1, h => by
    rw [dirtyTo_succ]
    have ih := chk_dirtyTo W D j (by omega)
    split
    · refine chkFrom_snoc _ [] _ ih (by simp [hasP]; omega) ?_
      cases hc : (([] : List Int) ++ (dirtyTo W D j).map (fun p : Pg => p.1)).contains ((j : Nat) : Int) with
      | false => rfl
      | true =>
        rw [List.contains_iff_mem] at hc
        simp only [List.nil_append, List.mem_map] at hc
        obtain ⟨p, hp, e⟩ := hc
        obtain ⟨n, hn, rfl⟩ := List.mem_map.1 hp
        have := List.mem_range.1 (List.mem_filter.1 hn).1
        omega
    · exact ih
theorem chk_dirty (W : List Int) (D : List Bool) : chk (dirtyPs W D) = 0 := chk_dirtyTo W D 14 (by decide)

theorem New.all {S S2 W : List Int} {D : List Bool} (h : New S (dirtyPs W D) S2) (ht : Tied S W D) : ∀ n, n < 14 → readS S2 (n : Nat) = page W n := fun n hn => by
  rw [h.look (chk_dirty W D), dirtyPs, lookI_dirtyTo]
  cases hb : D.getD n false with
  | true => rw [if_pos ⟨hn, rfl⟩]; rfl
  | false => rw [if_neg (by simp)]; exact ht n hn hb

theorem page_set {W : List Int} {i n : Nat} (x : Int) (hne : i / 8 ≠ n) : page (W.set i x) n = page W n := by
  apply List.ext_getElem?
  intro k
  by_cases hk : k < 8
  · rw [page_at hk, page_at hk, List.getElem?_set_ne (by omega)]
  · rw [List.getElem?_eq_none (by simp [page]; omega), List.getElem?_eq_none (by simp [page]; omega)]

theorem set_same {W : List Int} {i : Nat} {x : Int} (h : i < W.length) (hx : W.getD i 0 = x) : W.set i x = W := by
  apply List.ext_getElem?
  intro j
  rw [List.getElem?_set]
  split
  · rename_i e
    subst e
    rw [← hx, List.getD_eq_getElem?_getD, List.getElem?_eq_getElem h]
    rfl
  · rfl

theorem Tied.put {S W : List Int} {D : List Bool} (h : Tied S W D) (hW : W.length = 112) (hD : D.length = 14) (i x : Int) : Tied S (putW W i x) (putD W D i x) := by
  intro n hn hd
  unfold putW
  unfold putD at hd
  cases hb : hasM i with
  | false =>
    rw [hb] at hd
    simp only [Bool.false_eq_true, if_false] at hd ⊢
    exact h n hn hd
  | true =>
    have hi : 0 ≤ i ∧ i < 112 := by simpa [hasM] using hb
    rw [hb] at hd
    simp only [if_true] at hd ⊢
    by_cases hx : W.getD i.toNat 0 = x
    · rw [if_pos hx] at hd
      rw [set_same (by omega) hx]
      exact h n hn hd
    · rw [if_neg hx, List.getD_eq_getElem?_getD, List.getElem?_set] at hd
      by_cases e : i.toNat / 8 = n
      · rw [if_pos e, if_pos (by omega)] at hd
        cases hd
      · rw [if_neg e] at hd
        rw [page_set x e]
        exact h n hn (by rw [List.getD_eq_getElem?_getD]; exact hd)

theorem tied_new {S : List Int} (hS : S.length = 272) : Tied S (allS S) (List.replicate 14 false) := fun _ hn _ => (page_allS hS hn).symm
theorem tied_all {S W : List Int} (D : List Bool) (h : ∀ n, n < 14 → readS S (n : Nat) = page W n) : Tied S W D := fun n hn _ => h n hn

/-- No page is dirty. -/
theorem dirty_none {W : List Int} {D : List Bool} (h : ∀ n, n < 14 → D.getD n false = false) : dirtyPs W D = [] := by
  unfold dirtyPs dirtyTo
  rw [List.filter_eq_nil_iff.2 fun n hn => by rw [h n (List.mem_range.1 hn)]; simp]
  rfl
theorem clean_none (W : List Int) : dirtyPs W (List.replicate 14 false) = [] := dirty_none fun _ hn => by
  rw [List.getD_eq_getElem?_getD, List.getElem?_replicate, if_pos hn]
  rfl
end E
end Go.Proofs.Ytcnjmjdnlhiflab
