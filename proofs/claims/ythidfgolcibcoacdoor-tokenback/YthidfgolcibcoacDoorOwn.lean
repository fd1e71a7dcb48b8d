/- Slices that a call owns: over a row that may be longer than the slice's capacity; append to them; cutting them to their beginning. -/
import Derived.Test.YthidfgolcibcoacDoorInts
namespace Go.Proofs.YthidfgolcibcoacDoor
set_option maxRecDepth 20000
set_option maxHeartbeats 4000000
namespace E

/-- v is a slice of n elements, the cells xs, over a row from its head on, of blocks from B on (or nil). -/
def Own (w : World) (B e size : Nat) (v : Value) (n : Nat) (xs : List Value) : Prop :=
  xs.length = n * size ∧ ((v = .slice none 0 0 ∧ n = 0) ∨
    ∃ g cap cur, v = .slice (some ⟨g, 0, none⟩) n cap ∧ B ≤ g ∧ Blk w g cur e ∧ n ≤ cap ∧ cap * size ≤ cur.length ∧ cur.take (n * size) = xs)

def capOf : Value → Nat
  | .slice _ _ c => c
  | _ => 0

section
variable {w w' : World} {B e size n : Nat} {v : Value} {xs : List Value}

theorem Own.nil (w : World) (B e size : Nat) : Own w B e size (.slice none 0 0) 0 [] := ⟨by simp, .inl ⟨rfl, rfl⟩⟩
theorem Own.lt (h : Own w B e size v n xs) : ∀ k, v.ownBlock = some k → B ≤ k ∧ k < w.heap.size := by
  intro k hk
  rcases h.2 with ⟨rfl, _⟩ | ⟨g, cap, cur, rfl, hb, hg, _⟩
  · simp [Value.ownBlock] at hk
  · simp [Value.ownBlock] at hk
    subst hk
    exact ⟨hb, hg.lt⟩
theorem Own.keep {fp : List Nat} (h : Own w B e size v n xs) (hk : Keep fp w w') (hn : ∀ k, v.ownBlock = some k → k ∉ fp) : Own w' B e size v n xs := by
  refine ⟨h.1, ?_⟩
  rcases h.2 with h0 | ⟨g, cap, cur, rfl, hb, hg, r⟩
  · exact .inl h0
  · exact .inr ⟨g, cap, cur, rfl, hb, hk.blk hg (hn g rfl), r⟩
theorem Own.form (h : Own w B e size v n xs) : ∃ a cap, v = .slice a n cap := by
  rcases h.2 with ⟨h1, h2⟩ | ⟨g, cap, cur, h1, _⟩
  · exact ⟨none, 0, by rw [h1, h2]⟩
  · exact ⟨_, cap, h1⟩
theorem Own.range (h : Own w B e size v n xs) {q : Nat} {cs : List Value} (hc : (xs.drop q).take cs.length = cs) (h0 : 0 < n) : ∃ g cap, v = .slice (some ⟨g, 0, none⟩) n cap ∧ w.rangeAt g q cs := by
  rcases h.2 with ⟨_, h2⟩ | ⟨g, cap, cur, h1, _, hb, _, _, ht⟩
  · omega
  · refine ⟨g, cap, h1, fun j u hu => hb.cell ?_⟩
    rw [← hc, List.getElem?_take] at hu
    split at hu
    · rw [List.getElem?_drop, ← ht, List.getElem?_take] at hu
      split at hu
      · exact hu
      · cases hu
    · cases hu
/-- Its beginning, with no room behind it. -/
theorem Own.cut (h : Own w B e size v n xs) {m : Nat} (hm : m ≤ n) {a : Option Addr} {cap : Nat} (hv : v = .slice a n cap) : Own w B e size (.slice a m m) m (xs.take (m * size)) := by
  refine ⟨?_, ?_⟩
  · rw [List.length_take, h.1, Nat.min_eq_left (Nat.mul_le_mul_right _ hm)]
  · rcases h.2 with ⟨h1, h2⟩ | ⟨g, c, cur, h1, hb, hg, hc, hl, ht⟩
    · rw [h1] at hv
      injection hv with e1 e2 e3
      subst e1
      have : m = 0 := by omega
      subst this
      exact .inl ⟨rfl, rfl⟩
    · rw [h1] at hv
      injection hv with e1 e2 e3
      subst e1
      refine .inr ⟨g, m, cur, rfl, hb, hg, Nat.le_refl _, Nat.le_trans (Nat.mul_le_mul_right _ (Nat.le_trans hm hc)) hl, ?_⟩
      rw [← ht, List.take_take, Nat.min_eq_left (Nat.mul_le_mul_right _ hm)]
theorem Own.cap_le (h : Own w B e size v n xs) : n ≤ capOf v := by
  rcases h.2 with ⟨_, h2⟩ | ⟨g, cap, cur, h1, _, _, hc, _⟩
  · omega
  · rw [h1]; exact hc

theorem keep_grown {w w' : World} {row : Option Nat} (hg : w.grownBy w' row) : Keep row.toList w w' := (Keep.refl _ _).grown hg fun k e => .inl (by simp [e])
end

theorem opTo_app {P : Program} {n : Nat} {σ : Env} {o : Oper} {w : World} {v : Value} {t : TypeId} {s x : Operand} {b q m c ln : Nat} {K : Value → World → Prop} (B e size bytes : Nat) (xs news : List Value)
    (ho : o.op = .call { callee := .builtin .append, args := #[s, x], argTypes := #[t, t] }) (hs : ev σ s = some v) (hx : ev σ x = some (.slice (some ⟨b, q, none⟩) m c))
    (hP : appOk P t e size bytes = true) (hown : Own w B e size v ln xs) (hnews : w.rangeAt b q news) (hl : news.length = m * size) (h1 : ∀ u ∈ news, u.oneCell' = true)
    (hm : 0 < m) (h63 : ln + m ≤ maxLen) (hbytes : (ln + m) * bytes ≤ 140737488355328) (hbase : B ≤ w.heap.size)
    (hK : ∀ g cap w', Own w' B e size (.slice (some ⟨g, 0, none⟩) (ln + m) cap) (ln + m) (xs ++ news) → ((v.ownBlock = some g ∧ ln + m ≤ capOf v ∧ Keep [g] w w') ∨ (g = w.heap.size ∧ Keep [] w w' ∧ w'.heap.size = w.heap.size + 1)) → K (.slice (some ⟨g, 0, none⟩) (ln + m) cap) w') : OpTo P n σ o w K := by
  obtain ⟨i, z, hu, hi, hz, hsize, hby, hzs⟩ := appOk_run hP
  subst hsize
  subst hby
  have hlen : (xs ++ news).length = (ln + m) * i.size := by rw [List.length_append, hown.1, hl, Nat.add_mul]
  have hnews' : ∀ j u, news[j]? = some u → w.cell? ((⟨b, q, none⟩ : Addr).add j) = some u := fun j u hj => by rw [Addr.add_mid]; exact hnews j u hj
  have h63' : ((ln + m : Nat) : Int) ≤ 9223372036854775807 := by simp only [maxLen] at h63; omega
  have key : ∀ v' w', (Builtin.append_ #[t, t] o.type #[v, .slice (some ⟨b, q, none⟩) m c]).run P w = .ok v' w' → K v' w' → OpTo P n σ o w K := fun v' w' hr hk =>
    opTo_run (w' := w') (v := v') (fun a ha => by simp [execOp, ho, resolve, invoke, builtin, ha.eval hs, ha.eval hx, hr]) hk
  have hnew : ∀ (old : Nat) (cur : Array Value), cur = xs.toArray ++ news.toArray ++ Builtin.zeroCells z.cells (grownCap w (ln + m) old e - (ln + m)) →
      Own (w.drew.alloc (.cells cur e)) B e i.size (.slice (some ⟨w.heap.size, 0, none⟩) (ln + m) (grownCap w (ln + m) old e)) (ln + m) (xs ++ news) ∧ Keep [] w (w.drew.alloc (.cells cur e)) := fun old cur hcur => by
    have hge := grownCap_ge w (ln + m) old e
    refine ⟨⟨hlen, .inr ⟨w.heap.size, _, cur.toList, rfl, hbase, ?_, hge, ?_, ?_⟩⟩, ((Keep.refl _ _).drew).alloc _⟩
    · have := Blk.new w.drew cur.toList e
      rwa [Array.toArray_toList] at this
    · rw [hcur]
      simp only [Array.toList_append, List.length_append, Array.length_toList, size_zeroCells, hzs, hown.1, hl, ← Nat.add_mul]
      rw [Nat.add_sub_cancel' hge]
      exact Nat.le_refl _
    · rw [hcur]
      simp only [Array.toList_append]
      rw [← hlen]
      exact List.take_left
  rcases hown.2 with ⟨rfl, rfl⟩ | ⟨g, cap, cur, rfl, hbg, hg, hnc, hcs, htake⟩
  · have hxs : xs = [] := List.eq_nil_of_length_eq_zero (by simpa using hown.1)
    subst hxs
    have hr := run_append_nil (P := P) w t o.type e i z hu hi hz ⟨b, q, none⟩ m c news hl hnews' hm (by omega) (by simp only [Nat.zero_add] at hbytes; omega)
    have hn := hnew 0 (news.toArray ++ Builtin.zeroCells z.cells (grownCap w m 0 e - m)) (by simp)
    simp only [Nat.zero_add] at hn hK
    exact key _ _ hr (hK _ _ _ hn.1 (.inr ⟨rfl, hn.2, World.size_alloc _ _⟩))
  · by_cases hroom : ln + m ≤ cap
    · have hfit : ln * i.size + news.length ≤ cur.toArray.size := by
        rw [hl, ← Nat.add_mul, List.size_toArray]
        exact Nat.le_trans (Nat.mul_le_mul_right _ hroom) hcs
      have hr := run_append_room (P := P) w t o.type e i hu hi g ln cap cur.toArray hg ⟨b, q, none⟩ m c news hl hnews' h1 hroom hfit
      refine key _ _ hr (hK _ _ _ ⟨hlen, .inr ⟨g, cap, _, rfl, hbg, hg.set _, hroom, ?_, ?_⟩⟩ (.inl ⟨rfl, hroom, (Keep.refl _ _).setRow _ _ (.inl (by simp))⟩))
      · simp only [List.size_toArray] at hfit
        simp only [List.length_append, List.length_take, List.length_drop]
        omega
      · rw [← hlen, htake]
        exact List.take_left
    · have holds : ∀ j u, xs[j]? = some u → w.cell? ((⟨g, 0, none⟩ : Addr).add j) = some u := fun j u hj => by
        rw [Addr.add_mid, Nat.zero_add]
        refine hg.cell ?_
        rw [← htake, List.getElem?_take] at hj
        split at hj
        · exact hj
        · cases hj
      have hr := run_append_grow (P := P) w t o.type e i z hu hi hz ⟨g, 0, none⟩ ln cap xs hown.1 holds ⟨b, q, none⟩ m c news hl hnews' (by omega) h63' (growslice_fits (by omega) hbytes)
      have hn := hnew cap _ rfl
      exact key _ _ hr (hK _ _ _ hn.1 (.inr ⟨rfl, hn.2, World.size_alloc _ _⟩))

section
variable {P : Program} {T : Tbl} {n : Nat} {σ : Env} {o : Oper}
/-- s[:h:m]. -/
theorem val_slice3 {t : TypeId} {x hi mx : Operand} {a : Option Addr} {len cap sz : Nat} {k1 k2 : IntKind} {i1 i2 : Int} (h m : Nat) (hT : T.check P = true) (ho : o.op = .slice t x none (some hi) (some mx)) (hx : ev σ x = some (.slice a len cap))
    (h1 : ev σ hi = some (.int k1 i1)) (h2 : ev σ mx = some (.int k2 i2)) (ht : find T.sl t = some sz) (e1 : i1 = (h : Int)) (e2 : i2 = (m : Int)) (hm : m ≤ cap) (hh : h ≤ m) (w : World) : Val P n σ o w (.slice a h m) := by
  intro ac ha
  subst e1
  subst e2
  have hs := Tbl.sl_ok hT ht
  unfold slOk at hs
  split at hs
  · rename_i e hu
    simp [execOp, ho, ha.eval hx, ha.eval h1, ha.eval h2, Instr.sliceAt, Instr.slice, Instr.sliceBounds, Instr.sliceBound, asIntOf, run_underlying hu, sizeOk_run hs, hm, hh]
    cases a <;> simp [Addr.add]
  · cases hs
end
end E
end Go.Proofs.YthidfgolcibcoacDoor
