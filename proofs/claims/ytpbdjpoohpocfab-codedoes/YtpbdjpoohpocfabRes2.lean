/- Functions with several results; rows of trees that are being made. -/
import Derived.Test.YtpbdjpoohpocfabTreeA
import Derived.Test.YtpbdjpoohpocfabOwn
namespace Go.Proofs.Ytpbdjpoohpocfab
set_option maxRecDepth 20000
namespace E

section
variable {P : Program} {f n : Nat} {k : List Item} {R : Value → World → Prop} {σ : Env} {w : World}

theorem rn_ret3 {fn : Func} {t0 t1 t2 : Nat} {v0 v1 v2 : Value} (hf : P.funcs[f]? = some fn) (hr : fn.results = #[.tmp t0, .tmp t1, .tmp t2]) (h0 : look σ t0 = some v0) (h1 : look σ t1 = some v1) (h2 : look σ t2 = some v2)
    (hR : R (.tuple #[v0, v1, v2]) w) : Rn P f n (.code .ret :: k) R σ w := fun a ha =>
  runs_ret hf ha.defers (by simp only [results, hr]; simp [ha.has t0 _ h0, ha.has t1 _ h1, ha.has t2 _ h2]) hR
theorem rn_ret5 {fn : Func} {t0 t1 t2 t3 t4 : Nat} {v0 v1 v2 v3 v4 : Value} (hf : P.funcs[f]? = some fn) (hr : fn.results = #[.tmp t0, .tmp t1, .tmp t2, .tmp t3, .tmp t4]) (h0 : look σ t0 = some v0) (h1 : look σ t1 = some v1) (h2 : look σ t2 = some v2)
    (h3 : look σ t3 = some v3) (h4 : look σ t4 = some v4) (hR : R (.tuple #[v0, v1, v2, v3, v4]) w) : Rn P f n (.code .ret :: k) R σ w := fun a ha =>
  runs_ret hf ha.defers (by simp only [results, hr]; simp [ha.has t0 _ h0, ha.has t1 _ h1, ha.has t2 _ h2, ha.has t3 _ h3, ha.has t4 _ h4]) hR
end

section
variable {w : World} {B e k : Nat} {v : Value}

theorem flatten_at {k : Nat} {ccs : List (List Value)} (hk : ∀ c ∈ ccs, c.length = k) {i : Nat} {c : List Value} (h : ccs[i]? = some c) : (ccs.flatten.drop (i * k)).take k = c := by
  have := flat_at (f := fun x : List Value => x) (k := k) hk h
  simpa [List.flatMap_id'] using this
theorem flatten_length {k : Nat} {ccs : List (List Value)} (hk : ∀ c ∈ ccs, c.length = k) : ccs.flatten.length = ccs.length * k := by
  have := flat_length (f := fun x : List Value => x) (k := k) hk
  simpa [List.flatMap_id'] using this

/-- A row that is owned, by its elements. -/
theorem own_rowAt {ccs : List (List Value)} (h : Own w B e k v ccs.length ccs.flatten) (hk : ∀ c ∈ ccs, c.length = k) :
    ∃ a cap, v = .slice a ccs.length cap ∧ RowAt (fun b => v.ownBlock = some b) w k a ccs.length (fun i => ccs.getD i []) := by
  obtain ⟨a, cap, hv⟩ := h.form
  refine ⟨a, cap, hv, fun h0 => ?_⟩
  obtain ⟨g, cap', hv', hr⟩ := h.range (q := 0) (cs := ccs.flatten) (by rw [List.drop_zero, List.take_length]) h0
  rw [hv] at hv'
  injection hv' with e1 e2 e3
  subst e1
  refine ⟨g, 0, rfl, by rw [hv]; rfl, fun i hi j u hu => ?_⟩
  replace hu : (ccs.getD i [])[j]? = some u := hu
  rw [List.getD_eq_getElem?_getD, List.getElem?_eq_getElem hi] at hu
  have hc := hk _ (List.getElem_mem hi)
  have hj : j < k := by
    have := (List.getElem?_eq_some_iff.1 hu).1
    simp only [Option.getD_some] at this
    omega
  have hat := flatten_at hk (List.getElem?_eq_getElem hi)
  simp only [Option.getD_some] at hu
  rw [← hat, List.getElem?_take, if_pos hj, List.getElem?_drop] at hu
  have := hr (i * k + j) u hu
  rwa [← Nat.add_assoc] at this

theorem exprs_of_own {F : Nat → Prop} {ccs : List (List Value)} {l : List ET} (h : Own w B e 4 v ccs.length ccs.flatten) (hl : ccs.length = l.length) (hc : ∀ i (hi : i < l.length), ExprV F w (ccs.getD i []) (l[i]'hi)) : ExprsV (fun b => v.ownBlock = some b ∨ F b) w v l := by
  have hk : ∀ c ∈ ccs, c.length = 4 := fun c hm => by
    obtain ⟨i, hi, rfl⟩ := List.mem_iff_getElem.1 hm
    have := (hc i (by omega)).length
    rwa [List.getD_eq_getElem?_getD, List.getElem?_eq_getElem hi] at this
  obtain ⟨a, cap, hv, hr⟩ := own_rowAt h hk
  rw [hl] at hv hr
  exact ⟨a, cap, _, hv, hr.mono fun b hb => .inl hb, fun i hi => (hc i hi).mono fun b hb => .inr hb⟩
theorem stmts_of_own {F : Nat → Prop} {ccs : List (List Value)} {l : List ST} (h : Own w B e 12 v ccs.length ccs.flatten) (hl : ccs.length = l.length) (hc : ∀ i (hi : i < l.length), StmtV F w (ccs.getD i []) (l[i]'hi)) : StmtsV (fun b => v.ownBlock = some b ∨ F b) w v l := by
  have hk : ∀ c ∈ ccs, c.length = 12 := fun c hm => by
    obtain ⟨i, hi, rfl⟩ := List.mem_iff_getElem.1 hm
    have := (hc i (by omega)).length
    rwa [List.getD_eq_getElem?_getD, List.getElem?_eq_getElem hi] at this
  obtain ⟨a, cap, hv, hr⟩ := own_rowAt h hk
  rw [hl] at hv hr
  exact ⟨a, cap, _, hv, hr.mono fun b hb => .inl hb, fun i hi => (hc i hi).mono fun b hb => .inr hb⟩
end
end E
end Go.Proofs.Ytpbdjpoohpocfab
