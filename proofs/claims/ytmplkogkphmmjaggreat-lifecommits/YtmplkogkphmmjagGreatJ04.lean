/- Several texts in one: TreeRd, TreeV, Res2, Step, TbP, CmR, BeA, BeB, BeC, BeT, CmG, TreeB, CoA, CoB. -/
import Derived.Test.YtmplkogkphmmjagGreatJ03
import Derived.Test.YtmplkogkphmmjagGreatJ01
import Derived.Test.YtmplkogkphmmjagGreatProg
import Derived.Test.YtmplkogkphmmjagGreatJ02
/- Reading an argument: trees of expressions and of statements. -/
namespace Go.Proofs.YtmplkogkphmmjagGreat
set_option maxRecDepth 20000
set_option maxHeartbeats 4000000
namespace E

section
variable {H : Type} {enc : TypeId × Value → H} {P : Program} {w : World} {base : Nat} {spare : Nat → Bool} {held : Bool}

theorem open_rows {α : Type} {Q : List Value → α → Prop} {fuel : Nat} {t e : TypeId} {cs : List Value} {x : DataW H × List MemPlace} (k : Nat) (hk : 0 < k) (ht : P.underlying t = some (.slice e)) (hc : P.cellsOf e = k)
    (hel : ∀ n, n < fuel → ∀ cs x, DataW.trod enc P w base spare held n e cs = some x → ∃ s, Q cs s) (h : DataW.trod enc P w base spare held fuel t cs = some x) :
    ∃ (a : Option Addr) (cap : Nat) (L : List α) (cc : Nat → List Value), cs = [.slice a L.length cap] ∧ RowAt (fun b => b < w.heap.size) w k a L.length cc ∧ (∀ i (hi : i < L.length), Q (cc i) (L[i]'hi)) ∧ L.length ≤ cap := by
  rcases DataW.trod_slice ht h with ⟨hcs, _⟩ | ⟨a, len, cap, elems, rest, n, hn, hcs, _, _, hcap, _, hlen, hall, _⟩
  · exact ⟨none, 0, [], fun _ => [], hcs, fun h => absurd h (by simp), fun i hi => by simp at hi, by simp⟩
  · rw [hc] at hall
    have hel' : ∀ i, i < len → ∃ s : List Value × α, Q s.1 s.2 ∧ w.cells? base (a.add (i * k)) k = some s.1 := fun i hi => by
      have h1 := hall i hi
      rw [List.getElem?_eq_getElem (by omega)] at h1
      cases hcl : w.cells? base (a.add (i * k)) k with
      | none => rw [hcl] at h1; cases h1
      | some cs' =>
        rw [hcl] at h1
        obtain ⟨s, hs⟩ := hel n (by omega) cs' _ h1
        exact ⟨(cs', s), hs, rfl⟩
    obtain ⟨L, hL, hp⟩ := choose_list len hel'
    have hget : ∀ i (hi : i < L.length), (((L[i]?).map (·.1)).getD []) = (L[i]'hi).1 := fun i hi => by rw [List.getElem?_eq_getElem hi]; rfl
    refine ⟨some a, cap, L.map (·.2), fun i => ((L[i]?).map (·.1)).getD [], by rw [hcs, List.length_map, hL], ?_, fun i hi => ?_, by rw [List.length_map, hL]; exact hcap⟩
    · intro h0
      rw [List.length_map] at h0
      have hcell : ∀ i (hi : i < L.length) j v, (L[i]'hi).1[j]? = some v → w.cell? (a.add (i * k + j)) = some v := fun i hi j v hv => by
        have := (cells?_get (hp i _ (List.getElem?_eq_getElem hi)).2).2 j v hv
        rwa [Go.Deep.add_add] at this
      have hl0 : (L[0]'h0).1.length = k := (cells?_get (hp 0 _ (List.getElem?_eq_getElem h0)).2).1
      have hc0 := hcell 0 h0 0 ((L[0]'h0).1[0]'(by omega)) (List.getElem?_eq_getElem (by omega))
      have hsp : a.spot = none := by
        have := World.cell?_spot hc0
        simpa [Addr.add] using this
      obtain ⟨b, q, sp⟩ := a
      simp only at hsp
      subst hsp
      refine ⟨b, q, rfl, ?_, fun i hi j v hv => ?_⟩
      · have := World.block_lt_of_cell? w _ hc0
        simpa [Addr.add] using this
      · rw [List.length_map] at hi
        replace hv : (((L[i]?).map (·.1)).getD [])[j]? = some v := hv
        rw [hget i hi] at hv
        have := hcell i hi j v hv
        rw [Addr.add_mid] at this
        rw [Nat.add_assoc]
        exact this
    · rw [List.length_map] at hi
      show Q (((L[i]?).map (·.1)).getD []) _
      rw [hget i hi, List.getElem_map]
      exact (hp i _ (List.getElem?_eq_getElem hi)).1

/-- An expression's four cells, each read. -/
def ExprSplit (enc : TypeId × Value → H) (P : Program) (w : World) (base : Nat) (spare : Nat → Bool) (held : Bool) (tI tL tLE tE : TypeId) : Prop :=
  ∀ fuel cs x, DataW.trod enc P w base spare held fuel tE cs = some x → ∃ n c0 c1 c2 c3, fuel = n + 1 ∧ cs = [c0, c1, c2, c3] ∧
    (∃ y, DataW.trod enc P w base spare held n tI [c0] = some y) ∧ (∃ y, DataW.trod enc P w base spare held n tI [c1] = some y) ∧ (∃ y, DataW.trod enc P w base spare held n tL [c2] = some y) ∧ (∃ y, DataW.trod enc P w base spare held n tLE [c3] = some y)
/-- A statement's cells, each part read. -/
def StmtSplit (enc : TypeId × Value → H) (P : Program) (w : World) (base : Nat) (spare : Nat → Bool) (held : Bool) (tI tE tLS tS : TypeId) : Prop :=
  ∀ fuel cs x, DataW.trod enc P w base spare held fuel tS cs = some x → ∃ n c0 c1 ce cf cb co, fuel = n + 1 ∧ cs = [c0, c1] ++ ce ++ cf ++ [cb, co] ∧
    (∃ y, DataW.trod enc P w base spare held n tI [c0] = some y) ∧ (∃ y, DataW.trod enc P w base spare held n tI [c1] = some y) ∧ (∃ y, DataW.trod enc P w base spare held n tE ce = some y) ∧ (∃ y, DataW.trod enc P w base spare held n tE cf = some y) ∧
    (∃ y, DataW.trod enc P w base spare held n tLS [cb] = some y) ∧ (∃ y, DataW.trod enc P w base spare held n tLS [co] = some y)

theorem int_cell {tI : TypeId} {n : Nat} {c : Value} {y : DataW H × List MemPlace} (hI : P.underlying tI = some (.int .i64)) (h : DataW.trod enc P w base spare held n tI [c] = some y) : ∃ z, c = .int .i64 z := by
  obtain ⟨z, hz, _⟩ := trod_int1 hI h
  simp at hz
  exact ⟨z, hz⟩

theorem trod_expr {tI tL tLE tE : TypeId} (hI : P.underlying tI = some (.int .i64)) (hL : P.underlying tL = some (.int .i64)) (hLE : P.underlying tLE = some (.slice tE)) (hc : P.cellsOf tE = 4) (hsp : ExprSplit enc P w base spare held tI tL tLE tE) :
    ∀ (fuel : Nat) (cs : List Value) (x : DataW H × List MemPlace), DataW.trod enc P w base spare held fuel tE cs = some x → ∃ t, ExprV (fun b => b < w.heap.size) w cs t := by
  intro fuel
  induction fuel using Nat.strongRecOn with
  | _ fuel ih =>
    intro cs x h
    obtain ⟨n, c0, c1, c2, c3, hn, rfl, ⟨_, h0⟩, ⟨_, h1⟩, ⟨_, h2⟩, ⟨_, h3⟩⟩ := hsp fuel cs x h
    obtain ⟨op, rfl⟩ := int_cell hI h0
    obtain ⟨v, rfl⟩ := int_cell hI h1
    obtain ⟨z, rfl⟩ := int_cell hL h2
    obtain ⟨a, cap, L, cc, hcs, hr, hq, _⟩ := open_rows (Q := ExprV (fun b => b < w.heap.size) w) 4 (by decide) hLE hc (fun m hm cs x h => ih m (by omega) cs x h) h3
    simp at hcs
    subst hcs
    exact ⟨.mk op v z L, .mk cc hr hq⟩

theorem trod_stmt {tI tL tLE tE tLS tS : TypeId} (hI : P.underlying tI = some (.int .i64)) (hL : P.underlying tL = some (.int .i64)) (hLE : P.underlying tLE = some (.slice tE)) (hc : P.cellsOf tE = 4) (hsp : ExprSplit enc P w base spare held tI tL tLE tE)
    (hLS : P.underlying tLS = some (.slice tS)) (hcS : P.cellsOf tS = 12) (hspS : StmtSplit enc P w base spare held tI tE tLS tS) :
    ∀ (fuel : Nat) (cs : List Value) (x : DataW H × List MemPlace), DataW.trod enc P w base spare held fuel tS cs = some x → ∃ t, StmtV (fun b => b < w.heap.size) w cs t := by
  intro fuel
  induction fuel using Nat.strongRecOn with
  | _ fuel ih =>
    intro cs x h
    obtain ⟨n, c0, c1, ce, cf, cb, co, hn, rfl, ⟨_, h0⟩, ⟨_, h1⟩, ⟨_, h2⟩, ⟨_, h3⟩, ⟨_, h4⟩, ⟨_, h5⟩⟩ := hspS fuel cs x h
    obtain ⟨op, rfl⟩ := int_cell hI h0
    obtain ⟨v, rfl⟩ := int_cell hI h1
    obtain ⟨e, he⟩ := trod_expr hI hL hLE hc hsp n ce _ h2
    obtain ⟨f, hf⟩ := trod_expr hI hL hLE hc hsp n cf _ h3
    obtain ⟨ab, capb, Lb, ccb, hcb, hrb, hqb, _⟩ := open_rows (Q := StmtV (fun b => b < w.heap.size) w) 12 (by decide) hLS hcS (fun m hm cs x h => ih m (by omega) cs x h) h4
    obtain ⟨ao, capo, Lo, cco, hco, hro, hqo, _⟩ := open_rows (Q := StmtV (fun b => b < w.heap.size) w) 12 (by decide) hLS hcS (fun m hm cs x h => ih m (by omega) cs x h) h5
    simp at hcb hco
    subst hcb
    subst hco
    exact ⟨.mk op v e f Lb Lo, .mk ccb cco he hf hrb hqb hro hqo⟩
end
end E
end Go.Proofs.YtmplkogkphmmjagGreat

/- Variables of a program, as they lie in memory and as they are read. -/
namespace Go.Proofs.YtmplkogkphmmjagGreat
set_option maxRecDepth 20000
set_option maxHeartbeats 4000000
namespace E

def vcell (x : VarT) : List Value := [.string x.1, .int .i64 x.2]

/-- A slice of variables. -/
def VarsV (F : Nat → Prop) (w : World) (v : Value) (l : List VarT) : Prop :=
  ∃ a cap, v = .slice a l.length cap ∧ l.length ≤ cap ∧ RowAt F w 2 a l.length (fun i => vcell (l.getD i (ByteArray.empty, 0)))

section
variable {F F' : Nat → Prop} {w w' : World} {v : Value} {l : List VarT}
theorem VarsV.keep {fp : List Nat} (h : VarsV F w v l) (hk : Keep fp w w') (hs : Stays F w fp) : VarsV F w' v l := by
  obtain ⟨a, cap, hv, hc, hr⟩ := h
  exact ⟨a, cap, hv, hc, hr.keep hk hs⟩
theorem VarsV.mono (h : VarsV F w v l) (hF : ∀ b, F b → F' b) : VarsV F' w v l := by
  obtain ⟨a, cap, hv, hc, hr⟩ := h
  exact ⟨a, cap, hv, hc, hr.mono hF⟩
theorem VarsV.form (h : VarsV F w v l) : ∃ a cap, v = .slice a l.length cap := by
  obtain ⟨a, cap, hv, _⟩ := h
  exact ⟨a, cap, hv⟩
theorem VarsV.room {a : Option Addr} {cap : Nat} (h : VarsV F w (.slice a l.length cap) l) : l.length ≤ cap := by
  obtain ⟨a', cap', hv, hc, _⟩ := h
  cases hv
  exact hc
theorem VarsV.at (h : VarsV F w v l) {i : Nat} {x : VarT} (hx : l[i]? = some x) : ∃ b q cap, v = .slice (some ⟨b, q, none⟩) l.length cap ∧ F b ∧ w.rangeAt b (q + i * 2) (vcell x) := by
  obtain ⟨a, cap, hv, _, hr⟩ := h
  obtain ⟨hlt, e⟩ := List.getElem?_eq_some_iff.1 hx
  obtain ⟨b, q, ha, hF, hra⟩ := hr (by omega)
  have this : w.rangeAt b (q + i * 2) (vcell (l.getD i (ByteArray.empty, 0))) := hra i hlt
  rw [List.getD_eq_getElem?_getD, hx] at this
  exact ⟨b, q, cap, by rw [hv, ha], hF, this⟩
end

/-- A program as a value: its variables, its body. -/
def ProgV (F : Nat → Prop) (w : World) (v : Value) (vs : List VarT) (b : List ST) : Prop := ∃ vv bv, v = .agg #[vv, bv] ∧ VarsV F w vv vs ∧ StmtsV F w bv b
theorem ProgV.keep {F : Nat → Prop} {w w' : World} {v : Value} {vs : List VarT} {b : List ST} {fp : List Nat} (h : ProgV F w v vs b) (hk : Keep fp w w') (hs : Stays F w fp) : ProgV F w' v vs b := by
  obtain ⟨vv, bv, hv, h1, h2⟩ := h
  exact ⟨vv, bv, hv, h1.keep hk hs, h2.keep hk hs⟩
theorem ProgV.mono {F F' : Nat → Prop} {w : World} {v : Value} {vs : List VarT} {b : List ST} (h : ProgV F w v vs b) (hF : ∀ b, F b → F' b) : ProgV F' w v vs b := by
  obtain ⟨vv, bv, hv, h1, h2⟩ := h
  exact ⟨vv, bv, hv, h1.mono hF, h2.mono hF⟩

section
variable {H : Type} {enc : TypeId × Value → H} {P : Program} {w : World} {base : Nat} {spare : Nat → Bool} {held : Bool}
/-- A variable's two cells, each read. -/
def VarSplit (enc : TypeId × Value → H) (P : Program) (w : World) (base : Nat) (spare : Nat → Bool) (held : Bool) (tStr tI tV : TypeId) : Prop :=
  ∀ fuel cs x, DataW.trod enc P w base spare held fuel tV cs = some x → ∃ n c0 c1, fuel = n + 1 ∧ cs = [c0, c1] ∧ (∃ y, DataW.trod enc P w base spare held n tStr [c0] = some y) ∧ (∃ y, DataW.trod enc P w base spare held n tI [c1] = some y)

theorem trod_vars {tStr tI tLV tV : TypeId} (hS : P.underlying tStr = some .string) (hI : P.underlying tI = some (.int .i64)) (hLV : P.underlying tLV = some (.slice tV)) (hc : P.cellsOf tV = 2) (hsp : VarSplit enc P w base spare held tStr tI tV)
    {fuel : Nat} {cs : List Value} {x : DataW H × List MemPlace} (h : DataW.trod enc P w base spare held fuel tLV cs = some x) : ∃ vv l, cs = [vv] ∧ VarsV (fun b => b < w.heap.size) w vv l := by
  obtain ⟨a, cap, L, cc, hcs, hr, hq, hcap⟩ := open_rows (Q := fun cs (x : VarT) => cs = vcell x) 2 (by decide) hLV hc (fun m _ cs x h => by
    obtain ⟨n, c0, c1, _, rfl, ⟨_, h0⟩, ⟨_, h1⟩⟩ := hsp m cs x h
    obtain ⟨s, hs, _⟩ := DataW.trod_string hS h0
    obtain ⟨z, hz⟩ := int_cell hI h1
    simp at hs
    exact ⟨(s, z), by rw [hs, hz]; rfl⟩) h
  refine ⟨_, L, hcs, a, cap, rfl, hcap, fun h0 => ?_⟩
  obtain ⟨b, q, ha, hF, hra⟩ := hr h0
  refine ⟨b, q, ha, hF, fun i hi => ?_⟩
  have := hra i hi
  rw [hq i hi] at this
  show w.rangeAt b (q + i * 2) (vcell (L.getD i (ByteArray.empty, 0)))
  rw [List.getD_eq_getElem?_getD, List.getElem?_eq_getElem hi]
  exact this
end
end E
end Go.Proofs.YtmplkogkphmmjagGreat

/- Functions with several results; rows of trees that are being made. -/
namespace Go.Proofs.YtmplkogkphmmjagGreat
set_option maxRecDepth 20000
set_option maxHeartbeats 4000000
namespace E

section
variable {P : Program} {f n : Nat} {k : List Item} {K Kp : Value → World → Prop} {σ : Env} {w : World}

theorem rn_ret3 {fn : Func} {t0 t1 t2 : Nat} {v0 v1 v2 : Value} (hf : P.funcs[f]? = some fn) (hr : fn.results = #[.tmp t0, .tmp t1, .tmp t2]) (h0 : look σ t0 = some v0) (h1 : look σ t1 = some v1) (h2 : look σ t2 = some v2)
    (hR : K (.tuple #[v0, v1, v2]) w) : Rn P f n (.code .ret :: k) (endR K Kp) σ w := fun a ha hd =>
  runs_ret hf hd (by simp only [results, hr]; simp [ha.has t0 _ h0, ha.has t1 _ h1, ha.has t2 _ h2]) hR
theorem rn_ret5 {fn : Func} {t0 t1 t2 t3 t4 : Nat} {v0 v1 v2 v3 v4 : Value} (hf : P.funcs[f]? = some fn) (hr : fn.results = #[.tmp t0, .tmp t1, .tmp t2, .tmp t3, .tmp t4]) (h0 : look σ t0 = some v0) (h1 : look σ t1 = some v1) (h2 : look σ t2 = some v2)
    (h3 : look σ t3 = some v3) (h4 : look σ t4 = some v4) (hR : K (.tuple #[v0, v1, v2, v3, v4]) w) : Rn P f n (.code .ret :: k) (endR K Kp) σ w := fun a ha hd =>
  runs_ret hf hd (by simp only [results, hr]; simp [ha.has t0 _ h0, ha.has t1 _ h1, ha.has t2 _ h2, ha.has t3 _ h3, ha.has t4 _ h4]) hR
end

section
variable {w : World} {B e k : Nat} {v : Value}

theorem flatten_at {k : Nat} {ccs : List (List Value)} (hk : ∀ c ∈ ccs, c.length = k) {i : Nat} {c : List Value} (h : ccs[i]? = some c) : (ccs.flatten.drop (i * k)).take k = c := by
  have := flat_at (f := fun x : List Value => x) (k := k) hk h
  simpa [List.flatMap_id'] using this
theorem flatten_length {k : Nat} {ccs : List (List Value)} (hk : ∀ c ∈ ccs, c.length = k) : ccs.flatten.length = ccs.length * k := by
  have := flat_length (f := fun x : List Value => x) (k := k) hk
  simpa [List.flatMap_id'] using this

/-- A row that is owned, by its elements. -/
theorem own_rowAt {ccs : List (List Value)} (h : Own w B e k v ccs.length ccs.flatten) (hk : ∀ c ∈ ccs, c.length = k) :
    ∃ a cap, v = .slice a ccs.length cap ∧ RowAt (fun b => v.ownBlock = some b) w k a ccs.length (fun i => ccs.getD i []) := by
  obtain ⟨a, cap, hv⟩ := h.form
  refine ⟨a, cap, hv, fun h0 => ?_⟩
  obtain ⟨g, cap', hv', hr⟩ := h.range (q := 0) (cs := ccs.flatten) (by rw [List.drop_zero, List.take_length]) h0
  rw [hv] at hv'
  injection hv' with e1 e2 e3
  subst e1
  refine ⟨g, 0, rfl, by rw [hv]; rfl, fun i hi j u hu => ?_⟩
  replace hu : (ccs.getD i [])[j]? = some u := hu
  rw [List.getD_eq_getElem?_getD, List.getElem?_eq_getElem hi] at hu
  have hc := hk _ (List.getElem_mem hi)
  have hj : j < k := by
    have := (List.getElem?_eq_some_iff.1 hu).1
    simp only [Option.getD_some] at this
    omega
  have hat := flatten_at hk (List.getElem?_eq_getElem hi)
  simp only [Option.getD_some] at hu
  rw [← hat, List.getElem?_take, if_pos hj, List.getElem?_drop] at hu
  have := hr (i * k + j) u hu
  rwa [← Nat.add_assoc] at this

theorem exprs_of_own {F : Nat → Prop} {ccs : List (List Value)} {l : List ET} (h : Own w B e 4 v ccs.length ccs.flatten) (hl : ccs.length = l.length) (hc : ∀ i (hi : i < l.length), ExprV F w (ccs.getD i []) (l[i]'hi)) : ExprsV (fun b => v.ownBlock = some b ∨ F b) w v l := by
  have hk : ∀ c ∈ ccs, c.length = 4 := fun c hm => by
    obtain ⟨i, hi, rfl⟩ := List.mem_iff_getElem.1 hm
    have := (hc i (by omega)).length
    rwa [List.getD_eq_getElem?_getD, List.getElem?_eq_getElem hi] at this
  obtain ⟨a, cap, hv, hr⟩ := own_rowAt h hk
  rw [hl] at hv hr
  exact ⟨a, cap, _, hv, hr.mono fun b hb => .inl hb, fun i hi => (hc i hi).mono fun b hb => .inr hb⟩
theorem stmts_of_own {F : Nat → Prop} {ccs : List (List Value)} {l : List ST} (h : Own w B e 12 v ccs.length ccs.flatten) (hl : ccs.length = l.length) (hc : ∀ i (hi : i < l.length), StmtV F w (ccs.getD i []) (l[i]'hi)) : StmtsV (fun b => v.ownBlock = some b ∨ F b) w v l := by
  have hk : ∀ c ∈ ccs, c.length = 12 := fun c hm => by
    obtain ⟨i, hi, rfl⟩ := List.mem_iff_getElem.1 hm
    have := (hc i (by omega)).length
    rwa [List.getD_eq_getElem?_getD, List.getElem?_eq_getElem hi] at this
  obtain ⟨a, cap, hv, hr⟩ := own_rowAt h hk
  rw [hl] at hv hr
  exact ⟨a, cap, _, hv, hr.mono fun b hb => .inl hb, fun i hi => (hc i hi).mono fun b hb => .inr hb⟩
end
end E
end Go.Proofs.YtmplkogkphmmjagGreat

/- Trees' sizes. -/
namespace Go.Proofs.YtmplkogkphmmjagGreat
set_option maxRecDepth 20000
set_option maxHeartbeats 4000000
namespace E
theorem In.stays {F : Nat → Prop} {w : World} (h : In F w) : Stays F w [] := fun k hk => ⟨h k hk, by simp⟩
/-! ### Sizes -/
theorem szE_pos (t : ET) : 1 ≤ szE t := by cases t; simp only [szE]; omega
theorem szS_pos (t : ST) : 1 ≤ szS t := by cases t; simp only [szS]; omega
theorem szEs_len : ∀ (l : List ET), l.length ≤ szEs l
  | [] => by simp [szEs]
  | t :: r => by have := szEs_len r; have := szE_pos t; simp only [List.length_cons, szEs]; omega
theorem szSs_len : ∀ (l : List ST), l.length ≤ szSs l
  | [] => by simp [szSs]
  | t :: r => by have := szSs_len r; have := szS_pos t; simp only [List.length_cons, szSs]; omega
theorem szEs_append : ∀ (a b : List ET), szEs (a ++ b) = szEs a + szEs b
  | [], b => by simp [szEs]
  | t :: r, b => by simp only [List.cons_append, szEs, szEs_append r b]; omega
theorem szSs_append : ∀ (a b : List ST), szSs (a ++ b) = szSs a + szSs b
  | [], b => by simp [szSs]
  | t :: r, b => by simp only [List.cons_append, szSs, szSs_append r b]; omega
theorem szEs_succ {l : List ET} {i : Nat} {t : ET} (h : l[i]? = some t) : szEs (l.take (i + 1)) = szEs (l.take i) + szE t := by
  obtain ⟨hlt, e⟩ := List.getElem?_eq_some_iff.1 h
  rw [List.take_succ_eq_append_getElem hlt, szEs_append, e]
  simp [szEs]
theorem szSs_succ {l : List ST} {i : Nat} {t : ST} (h : l[i]? = some t) : szSs (l.take (i + 1)) = szSs (l.take i) + szS t := by
  obtain ⟨hlt, e⟩ := List.getElem?_eq_some_iff.1 h
  rw [List.take_succ_eq_append_getElem hlt, szSs_append, e]
  simp [szSs]
theorem szEs_take (l : List ET) (i : Nat) : szEs (l.take i) ≤ szEs l := by
  have e : szEs l = szEs (l.take i) + szEs (l.drop i) := by rw [← szEs_append, List.take_append_drop]
  omega
theorem szSs_take (l : List ST) (i : Nat) : szSs (l.take i) ≤ szSs l := by
  have e : szSs l = szSs (l.take i) + szSs (l.drop i) := by rw [← szSs_append, List.take_append_drop]
  omega
theorem szEs_ge {l : List ET} {i : Nat} (h : i ≤ l.length) : i ≤ szEs (l.take i) := by
  have := szEs_len (l.take i)
  rw [List.length_take] at this
  omega
theorem szSs_ge {l : List ST} {i : Nat} (h : i ≤ l.length) : i ≤ szSs (l.take i) := by
  have := szSs_len (l.take i)
  rw [List.length_take] at this
  omega
theorem szEs_at {l : List ET} {i : Nat} {t : ET} (h : l[i]? = some t) : szE t ≤ szEs l := by
  have := szEs_succ h
  have := szEs_take l (i + 1)
  omega
theorem szSs_at {l : List ST} {i : Nat} {t : ST} (h : l[i]? = some t) : szS t ≤ szSs l := by
  have := szSs_succ h
  have := szSs_take l (i + 1)
  omega
/-! ### Variables that are owned -/
theorem vars_of_own {w : World} {B e : Nat} {v : Value} {vs : List VarT} (h : Own w B e 2 v vs.length (vs.flatMap vcell)) : VarsV (fun b => B ≤ b ∧ b < w.heap.size) w v vs := by
  rcases h.2 with ⟨hv, h0⟩ | ⟨g, cap, cur, hv, hB, hb, hc, hl, ht⟩
  · have : vs = [] := List.eq_nil_of_length_eq_zero h0
    subst this
    exact ⟨none, 0, hv, by simp, fun h => absurd h (by simp)⟩
  · refine ⟨_, cap, hv, hc, fun h0 => ⟨g, 0, rfl, ⟨hB, hb.lt⟩, fun i hi => ?_⟩⟩
    have hx : vs[i]? = some vs[i] := List.getElem?_eq_getElem hi
    have hf := flat_at (f := vcell) (k := 2) (fun p _ => rfl) hx
    show w.rangeAt g (0 + i * 2) (vcell (vs.getD i (ByteArray.empty, 0)))
    rw [List.getD_eq_getElem?_getD, hx]
    rw [Nat.zero_add]
    refine hb.range ?_
    show (cur.drop (i * 2)).take 2 = vcell vs[i]
    rw [← hf, ← ht, List.drop_take, List.take_take, Nat.min_eq_left (by omega)]
end E
end Go.Proofs.YtmplkogkphmmjagGreat

/- What the proofs know of the program's types. -/
namespace Go.Proofs.YtmplkogkphmmjagGreat
set_option maxRecDepth 20000
set_option maxHeartbeats 4000000
namespace E
open Go.Proofs

def tbl : Tbl := { fld := [(24, [(0, 0), (1, 1)]), (25, [(0, 0), (1, 1)]), (36, [(0, 0), (1, 1), (2, 2), (3, 3)]), (37, [(0, 0), (1, 1), (2, 2), (3, 3)]), (42, [(0, 0), (1, 1), (2, 2), (3, 3), (4, 4), (5, 5)]), (43, [(0, 0), (1, 1), (2, 2), (3, 3), (4, 4), (5, 5)]), (44, [(0, 0), (1, 1), (2, 2)]), (45, [(0, 0), (1, 1), (2, 2)]), (51, [(0, 0), (1, 1), (2, 2), (3, 3), (4, 4), (5, 5)]), (52, [(0, 0), (1, 1), (2, 2), (3, 3), (4, 4), (5, 5)]), (56, [(0, 0), (1, 1), (2, 113)]), (57, [(0, 0), (1, 1), (2, 113)]), (72, [(0, 0), (1, 1)]), (73, [(0, 0), (1, 1)]), (78, [(0, 0), (1, 1), (2, 2), (3, 3)]), (79, [(0, 0), (1, 1), (2, 2), (3, 3)]), (84, [(0, 0), (1, 1), (2, 3)]), (85, [(0, 0), (1, 1), (2, 3)]), (88, [(0, 0)]), (89, [(0, 0)]), (93, [(0, 0), (1, 1), (2, 2), (3, 3)]), (94, [(0, 0), (1, 1), (2, 2), (3, 3)]), (96, [(0, 0), (1, 1)]), (97, [(0, 0), (1, 1)]), (98, [(0, 0), (1, 1), (2, 2), (3, 6), (4, 10), (5, 11)]), (99, [(0, 0), (1, 1), (2, 2), (3, 6), (4, 10), (5, 11)]), (102, [(0, 0)]), (103, [(0, 0)]), (104, [(0, 0), (1, 1)]), (105, [(0, 0), (1, 1)]), (112, [(0, 0), (1, 272)]), (113, [(0, 0), (1, 272)]), (128, [(0, 0), (1, 1), (2, 2), (3, 3), (4, 4)]), (129, [(0, 0), (1, 1), (2, 2), (3, 3), (4, 4)]), (152, [(0, 0), (1, 1)]), (153, [(0, 0), (1, 1)]), (167, [(0, 0), (1, 1)]), (168, [(0, 0), (1, 1)]), (172, [(0, 0), (1, 1), (2, 18), (3, 52)]), (173, [(0, 0), (1, 1), (2, 18), (3, 52)]), (194, [(0, 0), (1, 1), (2, 2), (3, 3), (4, 4), (5, 5), (6, 6), (7, 7), (8, 8), (9, 9), (10, 10)])], sl := [(22, 2), (23, 12), (26, 1), (27, 4), (40, 4), (61, 1), (87, 8), (92, 4), (111, 9), (123, 1), (162, 9), (171, 1)], ar := [(54, (112, 1)), (55, (14, 1)), (82, (2, 1)), (83, (14, 1)), (108, (8, 1)), (109, (8, 1)), (110, (34, 8)), (170, (34, 1)), (184, (0, 1))], one := [(1, ()), (2, ()), (3, ()), (4, ()), (5, ()), (6, ()), (9, ()), (10, ()), (11, ()), (12, ()), (15, ()), (16, ()), (17, ()), (21, ()), (22, ()), (23, ()), (26, ()), (27, ()), (28, ()), (29, ()), (30, ()), (31, ()), (33, ()), (35, ()), (38, ()), (39, ()), (40, ()), (41, ()), (46, ()), (47, ()), (48, ()), (49, ()), (50, ()), (53, ()), (58, ()), (59, ()), (60, ()), (61, ()), (62, ()), (63, ()), (65, ()), (66, ()), (67, ()), (69, ()), (70, ()), (71, ()), (74, ()), (75, ()), (76, ()), (77, ()), (80, ()), (81, ()), (86, ()), (87, ()), (90, ()), (91, ()), (92, ()), (95, ()), (100, ()), (101, ()), (106, ()), (107, ()), (111, ()), (114, ()), (115, ()), (116, ()), (117, ()), (118, ()), (119, ()), (120, ()), (121, ()), (122, ()), (123, ()), (124, ()), (125, ()), (126, ()), (127, ()), (130, ()), (131, ()), (132, ()), (133, ()), (134, ()), (135, ()), (136, ()), (137, ()), (138, ()), (139, ()), (140, ()), (141, ()), (142, ()), (143, ()), (145, ()), (146, ()), (147, ()), (148, ()), (149, ()), (150, ()), (151, ()), (154, ()), (155, ()), (156, ()), (157, ()), (158, ()), (159, ()), (161, ()), (162, ()), (163, ()), (164, ()), (165, ()), (166, ()), (169, ()), (171, ()), (174, ()), (175, ()), (176, ()), (177, ()), (178, ()), (179, ()), (180, ()), (181, ()), (187, ()), (188, ()), (189, ()), (190, ()), (191, ()), (192, ()), (193, ())], ag := [(24, 2), (25, 2), (36, 4), (37, 4), (42, 6), (43, 6), (44, 3), (45, 3), (51, 6), (52, 6), (54, 112), (55, 14), (56, 127), (57, 127), (72, 2), (73, 2), (78, 4), (79, 4), (82, 2), (83, 14), (84, 17), (85, 17), (88, 1), (89, 1), (93, 4), (94, 4), (96, 2), (97, 2), (98, 12), (99, 12), (102, 1), (103, 1), (104, 3), (105, 3), (108, 8), (109, 8), (110, 272), (112, 273), (113, 273), (128, 5), (129, 5), (152, 9), (153, 9), (167, 9), (168, 9), (170, 34), (172, 53), (173, 53), (184, 0), (194, 11)] }
theorem hT : tbl.check Tryz.prog = true := by decide +kernel
theorem hMix : Tryz.prog.follows .mixedOrders = true := by decide +kernel
end E
end Go.Proofs.YtmplkogkphmmjagGreat

/- Rows of instructions: as they are made, and as they lie there; append to them. -/
namespace Go.Proofs.YtmplkogkphmmjagGreat
set_option maxRecDepth 20000
set_option maxHeartbeats 4000000
namespace E
open Go.Proofs

def iC (x : Is) : List Value := [.int .i64 x.1, .int .i64 x.2.1, .int .i64 x.2.2.1, .int .i64 x.2.2.2]
theorem size_in : sizeOk Tryz.prog 3 1 = true := by kernel_rfl
theorem iC_one (x : Is) : ∀ u ∈ iC x, u.oneCell' = true := by
  intro u hu
  simp only [iC, List.mem_cons, List.not_mem_nil, or_false] at hu
  rcases hu with rfl | rfl | rfl | rfl <;> rfl
theorem one_in (a : Int) : ∀ u ∈ [Value.int .i64 a], u.oneCell' = true := by
  intro u hu
  simp only [List.mem_cons, List.not_mem_nil, or_false] at hu
  subst hu
  rfl
theorem iC_length (x : Is) : (iC x).length = 4 := rfl
def isC (l : List Is) : List Value := l.flatMap iC
theorem isC_length (l : List Is) : (isC l).length = l.length * 4 := flat_length fun p _ => iC_length p
theorem isC_one (l : List Is) : ∀ u ∈ isC l, u.oneCell' = true := by
  intro u hu
  simp only [isC, List.mem_flatMap, iC] at hu
  obtain ⟨x, _, hu⟩ := hu
  simp only [List.mem_cons, List.not_mem_nil, or_false] at hu
  rcases hu with rfl | rfl | rfl | rfl <;> rfl
theorem isC_app (a b : List Is) : isC (a ++ b) = isC a ++ isC b := by simp [isC]

/-- A list of instructions that lies there. -/
def InsV (F : Nat → Prop) (w : World) (v : Value) (l : List Is) : Prop := ∃ a cap, v = .slice a l.length cap ∧ (0 < l.length → ∃ b q, a = some ⟨b, q, none⟩ ∧ F b ∧ w.rangeAt b q (isC l))
section
variable {F F' : Nat → Prop} {w w' : World} {v : Value} {l : List Is}
theorem InsV.form (h : InsV F w v l) : ∃ a cap, v = .slice a l.length cap := let ⟨a, cap, h, _⟩ := h; ⟨a, cap, h⟩
theorem InsV.keep {fp : List Nat} (h : InsV F w v l) (hk : Keep fp w w') (hF : ∀ c, F c → c < w.heap.size ∧ c ∉ fp) : InsV F w' v l := by
  obtain ⟨a, cap, h1, h2⟩ := h
  refine ⟨a, cap, h1, fun h0 => ?_⟩
  obtain ⟨b, q, h3, h4, h5⟩ := h2 h0
  exact ⟨b, q, h3, h4, range_keep h5 hk (hF b h4).1 (hF b h4).2⟩
theorem InsV.mono (h : InsV F w v l) (hF : ∀ c, F c → F' c) : InsV F' w v l := by
  obtain ⟨a, cap, h1, h2⟩ := h
  refine ⟨a, cap, h1, fun h0 => ?_⟩
  obtain ⟨b, q, h3, h4, h5⟩ := h2 h0
  exact ⟨b, q, h3, hF b h4, h5⟩
theorem InsV.at (h : InsV F w v l) {i : Nat} {x : Is} (hx : l[i]? = some x) : ∃ b q cap, v = .slice (some ⟨b, q, none⟩) l.length cap ∧ F b ∧ w.rangeAt b (q + i * 4) (iC x) := by
  obtain ⟨a, cap, h1, h2⟩ := h
  have hi := (List.getElem?_eq_some_iff.1 hx).1
  obtain ⟨b, q, h3, h4, h5⟩ := h2 (by omega)
  refine ⟨b, q, cap, by rw [h1, h3], h4, fun j u hu => ?_⟩
  have hf : ((isC l).drop (i * 4)).take 4 = iC x := flat_at (fun p _ => iC_length p) hx
  have := h5 (i * 4 + j) u (by
    have hj : j < 4 := by have := (List.getElem?_eq_some_iff.1 hu).1; simpa [iC_length] using this
    rw [← hf, List.getElem?_take, if_pos hj, List.getElem?_drop] at hu
    exact hu)
  rw [← Nat.add_assoc] at this
  exact this
theorem InsV.nil : InsV F w (.slice none 0 0) [] := ⟨none, 0, rfl, fun h => absurd h (by simp)⟩
end

/-- A row of instructions that is being made, of blocks from B on. -/
def RowI (e : Nat) (w : World) (B : Nat) (v : Value) (l : List Is) : Prop := Own w B e 4 v l.length (isC l)
section
variable {e B : Nat} {w w' : World} {v : Value} {l : List Is}
theorem RowI.nil (e : Nat) (w : World) (B : Nat) : RowI e w B (.slice none 0 0) [] := Own.nil w B e 4
theorem RowI.form (h : RowI e w B v l) : ∃ a cap, v = .slice a l.length cap := Own.form h
theorem RowI.ins (h : RowI e w B v l) : InsV (fun c => B ≤ c ∧ c < w.heap.size) w v l := by
  rcases h.2 with ⟨h1, h2⟩ | ⟨g, cap, cur, h1, hB, hb, hc, hl, ht⟩
  · exact ⟨none, 0, by rw [h1, h2], fun h0 => by omega⟩
  · exact ⟨_, cap, h1, fun h0 => ⟨g, 0, rfl, ⟨hB, hb.lt⟩, hb.range (by rw [List.drop_zero, isC_length]; exact ht)⟩⟩
theorem RowI.keep {fp : List Nat} (h : RowI e w B v l) (hk : Keep fp w w') (hf : ∀ k ∈ fp, k < B) : RowI e w' B v l := Own.keep h hk fun k hv hm => by
  have := (Own.lt h k hv).1
  have := hf k hm
  omega
theorem RowI.keep0 (h : RowI e w B v l) (hk : Keep [] w w') : RowI e w' B v l := h.keep hk fun _ hm => by cases hm
theorem RowI.lower (h : RowI e w B v l) {B' : Nat} (hB : B' ≤ B) : RowI e w B' v l := by
  refine ⟨h.1, ?_⟩
  rcases h.2 with h0 | ⟨g, cap, cur, h1, hb, r⟩
  · exact .inl h0
  · exact .inr ⟨g, cap, cur, h1, by omega, r⟩
theorem RowI.own (h : RowI e w B v l) : ∀ k ∈ v.ownBlock.toList, B ≤ k ∧ k < w.heap.size := fun k hk => Own.lt h k (by simpa using hk)
end

section
variable {P : Program} {n : Nat} {σ : Env} {o : Oper} {w : World} {v : Value} {K : Value → World → Prop}
/-- append(s, x...), x with nothing in it. -/
theorem opTo_appZ {t : TypeId} {s x : Operand} {a : Option Addr} {c ln B e size bytes : Nat} {xs : List Value} (ho : o.op = .call { callee := .builtin .append, args := #[s, x], argTypes := #[t, t] }) (hs : ev σ s = some v) (hx : ev σ x = some (.slice a 0 c))
    (hP : appOk P t e size bytes = true) (hown : Own w B e size v ln xs) (hK : K v w) : OpTo P n σ o w K := by
  obtain ⟨i, z, hu, hi, hz, hsize, hby, hzs⟩ := appOk_run hP
  have hr : (Builtin.append_ #[t, t] o.type #[v, .slice a 0 c]).run P w = .ok v w := by
    rcases hown.2 with ⟨rfl, rfl⟩ | ⟨g, cap, cur, rfl, _, _, hnc, _⟩
    · cases a <;> simp [Builtin.append_, run_underlying hu, sizeOf, typeInfo, hi, Builtin.lenOf, Builtin.firstCells, loadCells, loadCellsFrom]
    · cases a <;> simp [Builtin.append_, run_underlying hu, sizeOf, typeInfo, hi, Builtin.lenOf, Builtin.firstCells, loadCells, loadCellsFrom, hnc, storeCells]
  refine opTo_run (w' := w) (v := v) (fun ac ha => ?_) hK
  simp [execOp, ho, resolve, invoke, builtin, ha.eval hs, ha.eval hx, hr]
/-- append(s, x...), of instructions. -/
theorem opTo_rowApp {t : TypeId} {s x : Operand} {e B : Nat} {F : Nat → Prop} {vx : Value} (l m : List Is) (ho : o.op = .call { callee := .builtin .append, args := #[s, x], argTypes := #[t, t] }) (hs : ev σ s = some v) (hx : ev σ x = some vx)
    (hP : appOk P t e 4 32 = true) (hrow : RowI e w B v l) (hm : InsV F w vx m) (hb : l.length + m.length ≤ 1000000) (hB : B ≤ w.heap.size)
    (hK : ∀ v' w', RowI e w' B v' (l ++ m) → Keep v.ownBlock.toList w w' → K v' w') : OpTo P n σ o w K := by
  obtain ⟨a, cap, rfl, h2⟩ := hm
  by_cases h0 : 0 < m.length
  · obtain ⟨b, q, rfl, _, hr⟩ := h2 h0
    refine opTo_app B e 4 32 (isC l) (isC m) ho hs hx hP hrow hr (isC_length m) (isC_one m) h0 (by unfold maxLen; omega) (by omega) hB ?_
    intro g c w' hown hk
    rw [← isC_app, ← List.length_append] at hown
    refine hK _ _ (by rw [← List.length_append]; exact hown) ?_
    rcases hk with ⟨h3, _, h4⟩ | ⟨_, h4, _⟩
    · rw [h3]; exact h4
    · exact h4.of0
  · have hm0 : m = [] := List.eq_nil_of_length_eq_zero (by omega)
    subst hm0
    refine opTo_appZ ho hs hx hP hrow (hK _ _ ?_ (Keep.refl _ _))
    rw [List.append_nil]
    exact hrow
end
section
variable {P : Program} {n : Nat} {σ : Env} {o : Oper} {w : World}
def intSl (P : Program) (t e : Nat) : Bool :=
  match P.underlying t with
  | some (.slice e') => e' == e && (match P.info? e with
    | some i => i.size == 1 && i.bytes == 8 && (match i.zero with | some (.int .i64 z) => z == 0 | _ => false)
    | none => false)
  | _ => false
theorem made_ints (len : Nat) : madeCells #[Value.int .i64 0] (len * 1) = (List.replicate len (Value.int .i64 0)).toArray := by
  apply Array.ext
  · simp [size_madeCells]
  · intro i h1 h2
    simp [madeCells, Nat.mod_one]
theorem opTo_makeI {t : TypeId} {l c : Operand} {k1 k2 : IntKind} {K : Value → World → Prop} (e len : Nat) (ho : o.op = .makeSlice t l c) (hl : ev σ l = some (.int k1 (len : Nat))) (hc : ev σ c = some (.int k2 (len : Nat)))
    (hP : intSl P t e = true) (hlen : len ≤ 1000000) (hK : ∀ w1 b, b = w.heap.size → w1.heap.size = b + 1 → Keep [] w w1 → Blk w1 b (List.replicate len (.int .i64 0)) e → K (.slice (some ⟨b, 0, none⟩) len len) w1) : OpTo P n σ o w K := by
  unfold intSl at hP
  split at hP
  · rename_i e' hu
    simp only [Bool.and_eq_true, beq_iff_eq] at hP
    obtain ⟨rfl, hP⟩ := hP
    split at hP
    · rename_i i hi
      simp only [Bool.and_eq_true, beq_iff_eq] at hP
      obtain ⟨⟨h1, h2⟩, h3⟩ := hP
      split at h3
      · rename_i z hz
        have : z = 0 := by simpa using h3
        subst this
        exact opTo_make len (List.replicate len (.int .i64 0)) i _ ho hl hc hu hi hz (by rw [h2]; omega) (by omega) (by rw [h1]; exact made_ints len) (hK _ _ rfl (World.size_alloc _ _) ((Keep.refl _ _).alloc _) (Blk.new _ _ _))
      · cases h3
    · cases hP
  · cases hP
end
end E
end Go.Proofs.YtmplkogkphmmjagGreat

/- The document's Being, as it lies in memory; contracts of push, pop, bit. -/
namespace Go.Proofs.YtmplkogkphmmjagGreat
set_option maxRecDepth 20000
set_option maxHeartbeats 4000000
namespace E
open Go.Proofs

abbrev tLg : Nat := 2
def lgs (l : List Int) : List Value := l.map fun k => Value.int .i64 k
theorem lgs_length (l : List Int) : (lgs l).length = l.length := by simp [lgs]
theorem lgs_one (l : List Int) : ∀ u ∈ lgs l, u.oneCell' = true := by
  intro u hu
  simp only [lgs, List.mem_map] at hu
  obtain ⟨x, _, rfl⟩ := hu
  rfl
theorem lgs_app (a b : List Int) : lgs (a ++ b) = lgs a ++ lgs b := by simp [lgs]
theorem lgs_at {l : List Int} {i : Nat} {x : Int} (h : l[i]? = some x) : (lgs l)[i]? = some (.int .i64 x) := by simp [lgs, h]

/-- A row of numbers that is owned. -/
abbrev RowL (w : World) (B : Nat) (v : Value) (l : List Int) : Prop := Own w B tLg 1 v l.length (lgs l)
def obs (v : Value) : List Nat := v.ownBlock.toList
theorem mem_obs {v : Value} {k : Nat} : k ∈ obs v ↔ v.ownBlock = some k := by simp [obs]
/-- They lie in two blocks. -/
def Apt (u v : Value) : Prop := ∀ k ∈ obs u, k ∉ obs v
section
variable {w w' : World} {B : Nat} {v : Value} {l : List Int}
theorem RowL.nil (w : World) (B : Nat) : RowL w B (.slice none 0 0) [] := Own.nil w B tLg 1
theorem RowL.keep {fp : List Nat} (h : RowL w B v l) (hk : Keep fp w w') (hn : ∀ k ∈ obs v, k ∉ fp) : RowL w' B v l := Own.keep h hk fun k hv => hn k (mem_obs.2 hv)
theorem RowL.lt (h : RowL w B v l) : ∀ k ∈ obs v, B ≤ k ∧ k < w.heap.size := fun k hk => Own.lt h k (mem_obs.1 hk)
theorem RowL.blk (h : RowL w B v l) : ∀ k ∈ obs v, ∃ L, Blk w k L tLg := fun k hk => by
  have hk := mem_obs.1 hk
  rcases h.2 with ⟨rfl, _⟩ | ⟨g, cap, cur, rfl, _, hg, _⟩
  · simp [Value.ownBlock] at hk
  · simp only [Value.ownBlock, Option.some.injEq] at hk
    subst hk
    exact ⟨cur, hg⟩
theorem RowL.ne (h : RowL w B v l) {b : Nat} {L : List Value} {e : TypeId} (hb : Blk w b L e) (he : e ≠ tLg) : ∀ k ∈ obs v, k ∉ [b] := fun k hk hm => by
  obtain ⟨L', hL'⟩ := h.blk k hk
  rw [List.mem_singleton.1 hm] at hL'
  exact Blk.ne hb hL' he rfl
theorem RowL.form (h : RowL w B v l) : ∃ a cap, v = .slice a l.length cap := Own.form h
theorem RowL.cap {a : Option Addr} {n cap : Nat} (h : RowL w B (.slice a n cap) l) : l.length ≤ cap := by
  rcases h.2 with ⟨hv, h0⟩ | ⟨g, c, cur, hv, _, _, hc, _⟩
  · omega
  · cases hv; exact hc
/-- One of them. -/
theorem RowL.at (h : RowL w B v l) {i : Nat} {x : Int} (hx : l[i]? = some x) : ∃ g cap, v = .slice (some ⟨g, 0, none⟩) l.length cap ∧ w.cell? ⟨g, i, none⟩ = some (.int .i64 x) := by
  have hi := (List.getElem?_eq_some_iff.1 hx).1
  rcases h.2 with ⟨_, h0⟩ | ⟨g, cap, cur, hv, _, hg, _, _, ht⟩
  · omega
  · refine ⟨g, cap, hv, hg.cell ?_⟩
    have := lgs_at hx
    rw [← ht, Nat.mul_one, List.getElem?_take] at this
    rw [if_pos hi] at this
    exact this
/-- Its beginning. -/
theorem RowL.first (h : RowL w B v l) {a : Option Addr} {cap : Nat} (hv : v = .slice a l.length cap) {m : Nat} (hm : m ≤ l.length) : RowL w B (.slice a m cap) (l.take m) ∧ obs (.slice a m cap) = obs v := by
  have hl : (l.take m).length = m := by rw [List.length_take]; omega
  have hlg : lgs (l.take m) = (lgs l).take m := by simp [lgs]
  subst hv
  refine ⟨⟨by rw [lgs_length, hl]; omega, ?_⟩, ?_⟩
  · rw [hl]
    rcases h.2 with ⟨hv, h0⟩ | ⟨g, c, cur, hv, hb, hg, hc, hl', ht⟩
    · injection hv with g1 g2 g3
      subst g1
      subst g3
      exact .inl ⟨by rw [show m = 0 by omega], by omega⟩
    · cases hv
      refine .inr ⟨g, cap, cur, rfl, hb, hg, by omega, hl', ?_⟩
      rw [hlg, ← ht, List.take_take, Nat.mul_one, Nat.mul_one, Nat.min_eq_left hm]
  · cases a <;> rfl
/-- Another number at a place. -/
theorem RowL.set (h : RowL w B v l) {i : Nat} (hi : i < l.length) {g cap : Nat} (hv : v = .slice (some ⟨g, 0, none⟩) l.length cap) : ∃ cur, Blk w g cur tLg ∧ i < cur.length ∧ ∀ {w' : World} {n : Int}, Blk w' g (splice cur i [.int .i64 n]) tLg → RowL w' B v (l.set i n) := by
  subst hv
  rcases h.2 with ⟨hv, h0⟩ | ⟨g', c, cur, hv, hb, hg, hc, hl', ht⟩
  · injection hv with g1
    cases g1
  · cases hv
    have hic : i < cur.length := by omega
    refine ⟨cur, hg, hic, fun {w' n} hb' => ⟨by rw [lgs_length]; simp, .inr ⟨g, cap, _, by simp, hb, hb', by simpa using hc, by rw [splice_length (by simp; omega)]; exact hl', ?_⟩⟩⟩
    have e1 : splice cur i [.int .i64 n] = cur.set i (.int .i64 n) := by
      unfold splice
      rw [List.set_eq_take_append_cons_drop, if_pos hic]
      simp
    rw [e1, List.length_set, Nat.mul_one, List.take_set, ← Nat.mul_one l.length, ht]
    simp [lgs, List.map_set]
end
end E
end Go.Proofs.YtmplkogkphmmjagGreat

/- The document's Being, as it lies in memory; contracts of push, pop, bit. -/
namespace Go.Proofs.YtmplkogkphmmjagGreat
set_option maxRecDepth 20000
set_option maxHeartbeats 4000000
namespace E
open Go.Proofs

/-- The input, as it lies in the first world. -/
def InpV (w0 : World) (v : Value) (l : List Int) : Prop := ∃ a cap, v = .slice a l.length cap ∧ (0 < l.length → ∃ b q, a = some ⟨b, q, none⟩ ∧ b < w0.heap.size ∧ w0.rangeAt b q (lgs l))
theorem Apt.symm {u v : Value} (h : Apt u v) : Apt v u := fun k hk hu => h k hu hk
theorem RowI.blk {w : World} {B e : Nat} {v : Value} {l : List Is} (h : RowI e w B v l) : ∀ k ∈ obs v, ∃ L, Blk w k L e := fun k hk => by
  have hk := mem_obs.1 hk
  rcases h.2 with ⟨rfl, _⟩ | ⟨g, cap, cur, rfl, _, hg, _⟩
  · simp [Value.ownBlock] at hk
  · simp only [Value.ownBlock, Option.some.injEq] at hk
    subst hk
    exact ⟨cur, hg⟩
theorem RowI.keepF {w w' : World} {B e : Nat} {v : Value} {l : List Is} {fp : List Nat} (h : RowI e w B v l) (hk : Keep fp w w') (hn : ∀ k ∈ obs v, k ∉ fp) : RowI e w' B v l := Own.keep h hk fun k hv => hn k (mem_obs.2 hv)
theorem size_ls : sizeOk Tryz.prog 26 1 = true := by kernel_rfl
theorem slice_lg (n : Int) : sliceCells Tryz.prog 26 1 [(0, .int .i64 n)] = some (tLg, [Value.int .i64 n].toArray) := by kernel_rfl
theorem app_lg : appOk Tryz.prog 26 tLg 1 8 = true := by decide +kernel
theorem one_v {v : Value} (h : v.oneCell' = true) : ∀ u ∈ [v], u.oneCell' = true := by
  intro u hu
  simp only [List.mem_cons, List.not_mem_nil, or_false] at hu
  subst hu
  exact h
end E
end Go.Proofs.YtmplkogkphmmjagGreat

/- The document's Being: what its steps make of it; contract of a mind's Copy. -/
namespace Go.Proofs.YtmplkogkphmmjagGreat
set_option maxRecDepth 20000
set_option maxHeartbeats 4000000
namespace E
open Go.Proofs

/-- One of a row, in this world and later ones. -/
theorem RowL.at2 {w : World} {B : Nat} {v : Value} {l : List Int} (h : RowL w B v l) {i : Nat} {x : Int} (hx : l[i]? = some x) : ∃ g cap, v = .slice (some ⟨g, 0, none⟩) l.length cap ∧ g < w.heap.size ∧ w.rangeAt g i [.int .i64 x] := by
  obtain ⟨g, cap, hv, hc⟩ := h.at hx
  refine ⟨g, cap, hv, (h.lt g (by rw [hv]; simp [obs, Value.ownBlock])).2, fun j u hu => ?_⟩
  have hj : j = 0 := by have := (List.getElem?_eq_some_iff.1 hu).1; simp at this; omega
  subst hj
  have : u = .int .i64 x := by simpa using hu.symm
  subst this
  exact hc
theorem topS_at {l : List Int} {j : Nat} (h : l.length = j + 1) : l[j]? = some (topS l) := by
  unfold topS
  rw [List.getLastD_eq_getLast?, List.getLast?_eq_getElem?, h, Nat.add_sub_cancel, List.getElem?_eq_getElem (by omega)]
  rfl
theorem cellAt_nat {l : List Int} {a : Nat} (h : a < l.length) : l[a]? = some (cellAt l ((a : Nat) : Int)) := by
  unfold cellAt
  rw [Int.toNat_natCast, List.getD_eq_getElem?_getD, List.getElem?_eq_getElem h]
  rfl
/-- A list of numbers that lies there. -/
def LsV (w : World) (v : Value) (l : List Int) : Prop := ∃ a cap, v = .slice a l.length cap ∧ (0 < l.length → ∃ b q, a = some ⟨b, q, none⟩ ∧ b < w.heap.size ∧ w.rangeAt b q (lgs l))
theorem RowL.lies {w : World} {B : Nat} {v : Value} {l : List Int} (h : RowL w B v l) : LsV w v l := by
  rcases h.2 with ⟨h1, h2⟩ | ⟨g, cap, cur, h1, hB, hb, hc, hl, ht⟩
  · exact ⟨none, 0, by rw [h1, h2], fun h0 => by omega⟩
  · exact ⟨_, cap, h1, fun h0 => ⟨g, 0, rfl, hb.lt, hb.range (by rw [List.drop_zero, lgs_length, ← Nat.mul_one l.length]; exact ht)⟩⟩
theorem LsV.keep0 {w w' : World} {v : Value} {l : List Int} (h : LsV w v l) (hk : Keep [] w w') : LsV w' v l := by
  obtain ⟨a, cap, h1, h2⟩ := h
  refine ⟨a, cap, h1, fun h0 => ?_⟩
  obtain ⟨b, q, h3, h4, h5⟩ := h2 h0
  exact ⟨b, q, h3, Nat.lt_of_lt_of_le h4 hk.size, range_keep h5 hk h4 (by simp)⟩
section
variable {P : Program} {n : Nat} {σ : Env} {o : Oper} {w : World} {K : Value → World → Prop}
/-- append(nil, x...). -/
theorem opTo_copyL {t : TypeId} {s x : Operand} {vx : Value} {e : Nat} (B : Nat) (l : List Int) (ho : o.op = .call { callee := .builtin .append, args := #[s, x], argTypes := #[t, t] }) (hs : ev σ s = some (.slice none 0 0)) (hx : ev σ x = some vx)
    (hP : appOk P t e 1 8 = true) (he : e = tLg) (hm : LsV w vx l) (hb : l.length ≤ 1000000) (hB : B ≤ w.heap.size)
    (hK : ∀ v' w', RowL w' B v' l → (∀ k ∈ obs v', w.heap.size ≤ k) → Keep [] w w' → K v' w') : OpTo P n σ o w K := by
  subst he
  obtain ⟨a, cap, rfl, h2⟩ := hm
  by_cases h0 : 0 < l.length
  · obtain ⟨b, q, rfl, _, hr⟩ := h2 h0
    refine opTo_app B tLg 1 8 [] (lgs l) ho hs hx hP (Own.nil _ _ _ _) hr (by rw [lgs_length]; omega) (lgs_one l) h0 (by unfold maxLen; omega) (by omega) hB ?_
    intro g c w' hown hk
    rw [Nat.zero_add, List.nil_append] at hown
    rw [Nat.zero_add]
    rcases hk with ⟨h3, _, _⟩ | ⟨h3, h4, _⟩
    · cases h3
    · refine hK _ _ hown (fun k hk => ?_) h4
      have : k = g := by simpa [obs, Value.ownBlock] using hk
      omega
  · have hm0 : l = [] := List.eq_nil_of_length_eq_zero (by omega)
    subst hm0
    exact opTo_appZ ho hs hx hP (RowL.nil w B) (hK _ _ (RowL.nil w B) (fun k hk => by simp [obs, Value.ownBlock] at hk) (Keep.refl _ _))
end

theorem size_lg1 : sizeOk Tryz.prog 2 1 = true := by kernel_rfl
theorem slice_one1 {v : Value} {n : Nat} (h : ∃ a cap, v = .slice a n cap) : v.oneCell' = true ∧ v.cells = [v].toArray := by
  obtain ⟨a, cap, rfl⟩ := h
  exact ⟨rfl, rfl⟩

end E
end Go.Proofs.YtmplkogkphmmjagGreat

/- The document's Being: Step whole, Commits, Now, NewBeing; SameLongs, SameResult. -/
namespace Go.Proofs.YtmplkogkphmmjagGreat
set_option maxRecDepth 20000
set_option maxHeartbeats 4000000
namespace E
open Go.Proofs

/-! ### The same numbers -/
theorem LsV.at {w : World} {v : Value} {l : List Int} (h : LsV w v l) {i : Nat} {x : Int} (hx : l[i]? = some x) : ∃ b q cap, v = .slice (some ⟨b, q, none⟩) l.length cap ∧ b < w.heap.size ∧ w.rangeAt b (q + i) [.int .i64 x] := by
  obtain ⟨a, cap, h1, h2⟩ := h
  have hi := (List.getElem?_eq_some_iff.1 hx).1
  obtain ⟨b, q, h3, h4, h5⟩ := h2 (by omega)
  refine ⟨b, q, cap, by rw [h1, h3], h4, fun j u hu => ?_⟩
  have hj : j = 0 := by have := (List.getElem?_eq_some_iff.1 hu).1; simp at this; omega
  subst hj
  have : u = .int .i64 x := by simpa using hu.symm
  subst this
  exact h5 i _ (lgs_at hx)
theorem sameLs_ret {w : World} {u v : Value} {l : List Int} (hu : LsV w u l) (hv : LsV w v l) (hl : l.length ≤ 1000000) : Ret Tryz.prog 15 [u, v] w fun r w' => r = .bool true ∧ Keep [] w w' := by
  have hu' := hu
  have hv' := hv
  obtain ⟨ua, uc, rfl, _⟩ := hu'
  obtain ⟨va, vc, rfl, _⟩ := hv'
  refine ret_of 26 Tryz.func15 rfl rfl (by simp) ?_
  refine au ?_
  refine nay ?_
  refine au ?_
  refine rn_ind (fun m σ w' => ∃ i : Nat, i ≤ l.length ∧ m = l.length - i ∧ σ = [(0, .slice ua l.length uc), (1, .slice va l.length vc), (5, .int .i64 (i : Nat))] ∧ Keep [] w w') l.length _ ?_ ⟨0, by omega, by omega, rfl, Keep.refl _ _⟩ ?_
  · exact ⟨rfl, rfl, rfl, trivial⟩
  rintro m σ w1 ih ⟨i, hi, rfl, rfl, hk1⟩
  refine au ?_
  by_cases hlt : i < l.length
  · refine ye ?_
    have hxi : l[i]? = some l[i] := List.getElem?_eq_getElem hlt
    obtain ⟨x, hx⟩ : ∃ x, x = l[i] := ⟨_, rfl⟩
    rw [← hx] at hxi
    obtain ⟨b1, q1, c1, hv1, hl1, hr1⟩ := hu.at hxi
    cases hv1
    obtain ⟨b2, q2, c2, hv2, hl2, hr2⟩ := hv.at hxi
    cases hv2
    refine au ?_
    refine rn_draw (fun w' => Keep [] w w') [] hMix ?_
    have hS : Keep [] w w1.drew := hk1.drew
    refine tk 0 ?_
    refine tk 1 ?_
    refine dr_any 2 _ rfl (by decide +kernel) rfl rfl (fun w => val_index i hT rfl rfl rfl rfl rfl hlt w) ?_
    refine dr_val 3 (.int .i64 x) rfl (by decide +kernel) rfl rfl (fun w9 hS9 => val_load1 hT rfl rfl rfl (by have := range_keep hr1 hS9 hl1 (by simp) 0 _ rfl; simpa using this)) hS ?_
    refine tk 4 ?_
    refine tk 5 ?_
    refine dr_any 6 _ rfl (by decide +kernel) rfl rfl (fun w => val_index i hT rfl rfl rfl rfl rfl hlt w) ?_
    refine dr_val 7 (.int .i64 x) rfl (by decide +kernel) rfl rfl (fun w9 hS9 => val_load1 hT rfl rfl rfl (by have := range_keep hr2 hS9 hl2 (by simp) 0 _ rfl; simpa using this)) hS ?_
    refine dno 8 ?_
    refine dr_done (by decide +kernel) ?_
    refine au ?_
    refine pl_num (((i + 1 : Nat) : Int)) rfl rfl rfl rfl rfl (by simp only [ariP]; omega) ?_
    refine au ?_
    refine rn_sub ?_ (ih (l.length - (i + 1)) [(0, .slice (some ⟨b1, q1, none⟩) l.length uc), (1, .slice (some ⟨b2, q2, none⟩) l.length vc), (5, .int .i64 ((i + 1 : Nat) : Int))] w1.drew (by omega) ⟨i + 1, by omega, rfl, rfl, hS⟩)
    exact ⟨rfl, rfl, rfl, trivial⟩
  · refine nay ?_
    refine au ?_
    exact rn_ret Tryz.func15 (.inl ⟨_, rfl, rfl⟩) ⟨rfl, hk1⟩
/-- Two results that are the same. -/
theorem sameRes_ret {w : World} {u v x y : Value} {l n : List Int} (c : Int) (hu : LsV w u l) (hv : LsV w v n) (hx : LsV w x l) (hy : LsV w y n) (hl : l.length ≤ 1000000) (hn : n.length ≤ 1000000) :
    Ret Tryz.prog 12 [.agg #[.int .i64 c, u, v], .agg #[.int .i64 c, x, y]] w fun r w' => r = .bool true ∧ Keep [] w w' := by
  have h1 := hu
  have h2 := hv
  have h3 := hx
  have h4 := hy
  obtain ⟨_, _, rfl, _⟩ := h1
  obtain ⟨_, _, rfl, _⟩ := h2
  obtain ⟨_, _, rfl, _⟩ := h3
  obtain ⟨_, _, rfl, _⟩ := h4
  refine ret_of 24 Tryz.func12 rfl rfl (by simp) ?_
  refine au ?_
  refine pl_op rfl rfl (opTo_boxN [.int .i64 c, _, _] rfl rfl rfl ?_)
  intro w1 x1 hx1 hs1 hk1 hb1
  refine pl_op rfl rfl (opTo_boxN [.int .i64 c, _, _] rfl rfl rfl ?_)
  intro w2 x2 hx2 hs2 hk2 hb2
  have hb1' := hk2.blk hb1 (by simp)
  have hk := hk1.tr hk2
  refine au ?_
  refine pl_val _ rfl rfl (val_load1 hT rfl rfl rfl (hb1'.cell rfl)) ?_
  refine au ?_
  refine pl_val _ rfl rfl (val_load1 hT rfl rfl rfl (hb2.cell rfl)) ?_
  refine ye ?_
  refine au ?_
  refine pl_val _ rfl rfl (val_load1 hT rfl rfl rfl (hb1'.cell rfl)) ?_
  refine au ?_
  refine pl_val _ rfl rfl (val_load1 hT rfl rfl rfl (hb2.cell rfl)) ?_
  refine pl_op rfl rfl (opTo_call (fst := []) (cap := []) rfl rfl rfl rfl (by decide +kernel) ((sameLs_ret (hu.keep0 hk) (hx.keep0 hk) hl).mono ?_))
  rintro r w3 ⟨rfl, hk3⟩
  have hb13 := hk3.blk hb1' (by simp)
  have hb23 := hk3.blk hb2 (by simp)
  refine au ?_
  refine pl_val _ rfl rfl (val_load1 hT rfl rfl rfl (hb13.cell rfl)) ?_
  refine au ?_
  refine pl_val _ rfl rfl (val_load1 hT rfl rfl rfl (hb23.cell rfl)) ?_
  refine pl_op rfl rfl (opTo_call (fst := []) (cap := []) rfl rfl rfl rfl (by decide +kernel) ((sameLs_ret ((hv.keep0 hk).keep0 hk3) ((hy.keep0 hk).keep0 hk3) hn).mono ?_))
  rintro r w4 ⟨rfl, hk4⟩
  refine au ?_
  exact rn_ret Tryz.func12 (.inl ⟨_, rfl, rfl⟩) ⟨rfl, (hk.tr hk3).tr hk4⟩

/-! ### A program's instructions -/
/-- What is known of the instructions of a program. -/
structure Prg (c : Nat) (Q : List Is) : Prop where
  sim : Sim c 0 Q 0
  jmp : Jmps c 0 Q
  ops : ∀ x ∈ Q, 1 ≤ x.1 ∧ x.1 ≤ 15
  cells : c ≤ 1000
  len : Q.length ≤ 100000
theorem Sim.le {c : Int} {n m : Nat} {l : List Is} (h : Sim c n l m) (hn : n ≤ 24) : m ≤ 24 := by
  induction h with
  | nil => exact hn
  | cons hx _ ih => exact ih hx.room
end E
end Go.Proofs.YtmplkogkphmmjagGreat

/- What a tree must be for its instructions to be made; what a check tells of that. -/
namespace Go.Proofs.YtmplkogkphmmjagGreat
set_option maxRecDepth 20000
set_option maxHeartbeats 4000000
namespace E

mutual
def gdE (nv : Nat) : ET → Prop
  | .mk op v _ l => (op = 2 ∨ op = 3 → 0 ≤ v ∧ v.toNat < nv) ∧ gdEs nv l
def gdEs (nv : Nat) : List ET → Prop
  | [] => True
  | t :: r => gdE nv t ∧ gdEs nv r
end
mutual
def gdS (nv : Nat) : ST → Prop
  | .mk op v e f b o => 1 ≤ op ∧ op ≤ 7 ∧ (needV op = true → 0 ≤ v ∧ v.toNat < nv) ∧ (needE op = true → gdE nv e) ∧ (needF op = true → gdE nv f) ∧ gdSs nv b ∧ gdSs nv o
def gdSs (nv : Nat) : List ST → Prop
  | [] => True
  | t :: r => gdS nv t ∧ gdSs nv r
end
theorem gdEs_at {nv : Nat} : ∀ {l : List ET} {i : Nat} {t : ET}, gdEs nv l → l[i]? = some t → gdE nv t
  | [], _, _, _, h => by simp at h
  | x :: r, 0, t, h, e => by simp at e; subst e; exact h.1
  | x :: r, i + 1, t, h, e => by simp at e; exact gdEs_at h.2 e
theorem gdSs_at {nv : Nat} : ∀ {l : List ST} {i : Nat} {t : ST}, gdSs nv l → l[i]? = some t → gdS nv t
  | [], _, _, _, h => by simp at h
  | x :: r, 0, t, h, e => by simp at e; subst e; exact h.1
  | x :: r, i + 1, t, h, e => by simp at e; exact gdSs_at h.2 e
mutual
theorem chkE_gd {nv : Nat} : ∀ (t : ET) {d k k' : Nat}, chkE nv t d k = .ok k' → gdE nv t
  | .mk op v n l, d, k, k', h => by
    obtain ⟨_, h1, k1, h2⟩ := chkE_inv h
    obtain ⟨_, _, _, _, c, _⟩ := ownE_inv h1
    exact ⟨c, chkEs_gd l h2⟩
theorem chkEs_gd {nv : Nat} : ∀ (l : List ET) {d k k' : Nat}, chkEs nv l d k = .ok k' → gdEs nv l
  | [], _, _, _, _ => trivial
  | t :: r, d, k, k', h => by
    obtain ⟨⟨k1, h1⟩, k2, h2⟩ := chkEs_inv h
    exact ⟨chkE_gd t h1, chkEs_gd r h2⟩
end
mutual
theorem chkS_gd {nv : Nat} : ∀ (t : ST) {d k k' : Nat}, chkS nv t d k = .ok k' → gdS nv t
  | .mk op v e f b o, d, k, k', h => by
    obtain ⟨_, h1, h2, h3, ⟨k1, k2, h4⟩, k3, k4, h5⟩ := chkS_inv h
    obtain ⟨a, a', _, _, _, _, c, _⟩ := ownS_inv h1
    exact ⟨a, a', c, fun hn => (let ⟨_, _, hc⟩ := h2 hn; chkE_gd e hc), fun hn => (let ⟨_, _, hc⟩ := h3 hn; chkE_gd f hc), chkSs_gd b h4, chkSs_gd o h5⟩
theorem chkSs_gd {nv : Nat} : ∀ (l : List ST) {d k k' : Nat}, chkSs nv l d k = .ok k' → gdSs nv l
  | [], _, _, _, _ => trivial
  | t :: r, d, k, k', h => by
    obtain ⟨⟨k1, h1⟩, k2, h2⟩ := chkSs_inv h
    exact ⟨chkS_gd t h1, chkSs_gd r h2⟩
end
theorem insS_pos (vs : List VarT) : ∀ (t : ST) (i0 : Nat), 0 < (insS vs t i0).length
  | .mk op v e f b o, i0 => by
    simp only [insS]
    split
    · simp only [whileI, List.length_append, List.length_cons]; omega
    · split
      · simp only [ifI, List.length_append, List.length_cons]; omega
      · simp only [List.length_append, List.length_cons]; omega
theorem insE_pos (vs : List VarT) : ∀ (t : ET), 0 < (insE vs t).length
  | .mk op v n l => by simp [insE]
end E
end Go.Proofs.YtmplkogkphmmjagGreat

/- One statement, one expression of a row, field by field. -/
namespace Go.Proofs.YtmplkogkphmmjagGreat
set_option maxRecDepth 20000
set_option maxHeartbeats 4000000
namespace E

theorem range_subT {w : World} {b p : Nat} {cs ds : List Value} (h : w.rangeAt b p cs) (k : Nat) (hd : (cs.drop k).take ds.length = ds) : w.rangeAt b (p + k) ds := fun j u hu => by
  rw [← hd, List.getElem?_take] at hu
  split at hu
  · rw [List.getElem?_drop] at hu
    have := h (k + j) u hu
    rwa [← Nat.add_assoc] at this
  · cases hu

def scells (op v : Int) (ce cf : List Value) (bv ov : Value) : List Value := [.int .i64 op, .int .i64 v] ++ ce ++ cf ++ [bv, ov]

/-- The statement at p of block b, field by field. -/
structure StmtAt (F : Nat → Prop) (w : World) (b p : Nat) (op v : Int) (e f : ET) (lb lo : List ST) (ce cf : List Value) (bv ov : Value) : Prop where
  whole : w.rangeAt b p (scells op v ce cf bv ov)
  cop : w.cell? ⟨b, p + 0, none⟩ = some (.int .i64 op)
  cv : w.cell? ⟨b, p + 1, none⟩ = some (.int .i64 v)
  re : w.rangeAt b (p + 2) ce
  rf : w.rangeAt b (p + 6) cf
  cb : w.cell? ⟨b, p + 10, none⟩ = some bv
  co : w.cell? ⟨b, p + 11, none⟩ = some ov
  he : ExprV F w ce e
  hf : ExprV F w cf f
  hb : StmtsV F w bv lb
  ho : StmtsV F w ov lo
  inF : F b

theorem list4 {cs : List Value} (h : cs.length = 4) : ∃ a b c d, cs = [a, b, c, d] := by
  match cs, h with
  | [a, b, c, d], _ => exact ⟨a, b, c, d, rfl⟩

theorem stmtAt_mk {F : Nat → Prop} {w : World} {b p : Nat} {op v : Int} {e f : ET} {lb lo : List ST} {ce cf : List Value} {bv ov : Value} (h : w.rangeAt b p (scells op v ce cf bv ov)) (hF : F b) (he : ExprV F w ce e) (hf : ExprV F w cf f) (hb : StmtsV F w bv lb) (ho : StmtsV F w ov lo) : StmtAt F w b p op v e f lb lo ce cf bv ov := by
  obtain ⟨a0, a1, a2, a3, rfl⟩ := list4 he.length
  obtain ⟨b0, b1, b2, b3, rfl⟩ := list4 hf.length
  exact ⟨h, h 0 _ rfl, h 1 _ rfl, range_subT h 2 rfl, range_subT h 6 rfl, h 10 _ rfl, h 11 _ rfl, he, hf, hb, ho, hF⟩

theorem StmtsV.stmtAt {F : Nat → Prop} {w : World} {x : Value} {l : List ST} (h : StmtsV F w x l) {i : Nat} {op v : Int} {e f : ET} {lb lo : List ST} (ht : l[i]? = some (.mk op v e f lb lo)) :
    ∃ b q cap ce cf bv ov, x = .slice (some ⟨b, q, none⟩) l.length cap ∧ StmtAt F w b (q + i * 12) op v e f lb lo ce cf bv ov := by
  obtain ⟨b, q, cap, ci, hv, hF, hra, hci⟩ := h.at ht
  obtain ⟨ce, cf, bv, ov, rfl, he, hf, hb, ho⟩ := hci.inv
  exact ⟨b, q, cap, ce, cf, bv, ov, hv, stmtAt_mk hra hF he hf hb ho⟩

theorem StmtAt.keep {F : Nat → Prop} {w w' : World} {b p : Nat} {op v : Int} {e f : ET} {lb lo : List ST} {ce cf : List Value} {bv ov : Value} {fp : List Nat} (h : StmtAt F w b p op v e f lb lo ce cf bv ov) (hk : Keep fp w w') (hs : Stays F w fp) : StmtAt F w' b p op v e f lb lo ce cf bv ov :=
  stmtAt_mk (range_keep h.whole hk (hs b h.inF).1 (hs b h.inF).2) h.inF (h.he.keep hk hs) (h.hf.keep hk hs) (h.hb.keep hk hs) (h.ho.keep hk hs)
theorem StmtAt.stmt {F : Nat → Prop} {w : World} {b p : Nat} {op v : Int} {e f : ET} {lb lo : List ST} {ce cf : List Value} {bv ov : Value} (h : StmtAt F w b p op v e f lb lo ce cf bv ov) : StmtV F w (scells op v ce cf bv ov) (.mk op v e f lb lo) := StmtV.of h.he h.hf h.hb h.ho

/-- The expression at p of block b, field by field. -/
structure ExprAt (F : Nat → Prop) (w : World) (b p : Nat) (op v n : Int) (l : List ET) (lv : Value) : Prop where
  whole : w.rangeAt b p [.int .i64 op, .int .i64 v, .int .i64 n, lv]
  cop : w.cell? ⟨b, p + 0, none⟩ = some (.int .i64 op)
  cv : w.cell? ⟨b, p + 1, none⟩ = some (.int .i64 v)
  cn : w.cell? ⟨b, p + 2, none⟩ = some (.int .i64 n)
  cl : w.cell? ⟨b, p + 3, none⟩ = some lv
  hl : ExprsV F w lv l
  inF : F b
theorem exprAt_mk {F : Nat → Prop} {w : World} {b p : Nat} {op v n : Int} {l : List ET} {lv : Value} (h : w.rangeAt b p [.int .i64 op, .int .i64 v, .int .i64 n, lv]) (hF : F b) (hl : ExprsV F w lv l) : ExprAt F w b p op v n l lv :=
  ⟨h, h 0 _ rfl, h 1 _ rfl, h 2 _ rfl, h 3 _ rfl, hl, hF⟩
theorem ExprsV.exprAt {F : Nat → Prop} {w : World} {x : Value} {l : List ET} (h : ExprsV F w x l) {i : Nat} {op v n : Int} {l' : List ET} (ht : l[i]? = some (.mk op v n l')) :
    ∃ b q cap lv, x = .slice (some ⟨b, q, none⟩) l.length cap ∧ ExprAt F w b (q + i * 4) op v n l' lv := by
  obtain ⟨b, q, cap, ci, hv, hF, hra, hci⟩ := h.at ht
  obtain ⟨lv, rfl, hl⟩ := hci.inv
  exact ⟨b, q, cap, lv, hv, exprAt_mk hra hF hl⟩
theorem ExprAt.expr {F : Nat → Prop} {w : World} {b p : Nat} {op v n : Int} {l : List ET} {lv : Value} (h : ExprAt F w b p op v n l lv) : ExprV F w [.int .i64 op, .int .i64 v, .int .i64 n, lv] (.mk op v n l) := ExprV.of h.hl
end E
end Go.Proofs.YtmplkogkphmmjagGreat

/- Contracts of the document's functions that go through a program's trees: how many parts, and whether it is great. -/
namespace Go.Proofs.YtmplkogkphmmjagGreat
set_option maxRecDepth 20000
set_option maxHeartbeats 4000000
namespace E
open Go.Proofs


theorem exprParts_ret : ∀ (k : Nat) (t : ET), szE t ≤ k → ∀ {F : Nat → Prop} {w : World} {cs : List Value} (most : Nat), ExprV F w cs t → In F w → most ≤ 900 →
    Ret Tryz.prog 53 [.agg cs.toArray, .int .i64 (most : Nat)] w fun v w' => v = .int .i64 ((min (szE t) (most + 1) : Nat)) ∧ Keep [] w w' := by
  intro k
  induction k with
  | zero => intro t ht; have := szE_pos t; omega
  | succ k ih =>
    intro t ht F w cs most h hF hm
    obtain ⟨op, v, n, l⟩ := t
    obtain ⟨lv, rfl, hl⟩ := h.inv
    obtain ⟨a, cap, rfl⟩ := hl.form
    simp only [szE] at ht ⊢
    refine ret_of 31 Tryz.func53 rfl rfl (by simp) ?_
    refine au ?_
    refine pl_op rfl rfl (opTo_box [.int .i64 op, .int .i64 v, .int .i64 n, .slice a l.length cap] rfl rfl rfl ?_)
    have hk0 : Keep [] w (w.alloc (.cells [.int .i64 op, .int .i64 v, .int .i64 n, .slice a l.length cap].toArray 94)) := (Keep.refl _ _).alloc _
    have hb0 : Blk (w.alloc (.cells [.int .i64 op, .int .i64 v, .int .i64 n, .slice a l.length cap].toArray 94)) w.heap.size [.int .i64 op, .int .i64 v, .int .i64 n, .slice a l.length cap] 94 := Blk.new _ _ _
    generalize (w.alloc (.cells [.int .i64 op, .int .i64 v, .int .i64 n, .slice a l.length cap].toArray 94)) = w1 at *
    generalize w.heap.size = b at *
    refine au ?_
    refine rn_ind (fun m σ w' => ∃ i nn : Nat, i ≤ l.length ∧ m = l.length - i ∧ σ = [(1, .int .i64 (most : Nat)), (2, .pointer (some ⟨b, 0, none⟩)), (5, .int .i64 (nn : Nat)), (6, .int .i64 (i : Nat))] ∧ nn = min (1 + szEs (l.take i)) (most + 1) ∧
      Blk w' b [.int .i64 op, .int .i64 v, .int .i64 n, .slice a l.length cap] 94 ∧ Keep [] w w') l.length _ ?_ ⟨0, 1, by omega, by omega, rfl, by simp [szEs], hb0, hk0⟩ ?_
    · exact ⟨rfl, rfl, rfl, rfl, trivial⟩
    rintro m σ w2 ih2 ⟨i, nn, hi, rfl, rfl, hn, hb2, hk2⟩
    refine au ?_
    refine pl_val _ rfl rfl (val_load1 hT rfl rfl rfl (hb2.cell rfl)) ?_
    refine au ?_
    have hle := szEs_take l i
    have hge := szEs_ge hi
    by_cases hlt : i < l.length
    · refine ye ?_
      refine au ?_
      by_cases hnm : nn ≤ most
      · refine ye ?_
        refine au ?_
        refine pl_val _ rfl rfl (val_load1 hT rfl rfl rfl (hb2.cell rfl)) ?_
        refine au ?_
        have hget : l[i]? = some l[i] := List.getElem?_eq_getElem hlt
        obtain ⟨bb, q, cap', ci, hv, _, hra, hci⟩ := (hl.keep hk2 hF.stays).at hget
        cases hv
        refine pl_val _ rfl rfl (val_index i hT rfl rfl rfl rfl rfl hlt w2) ?_
        refine pl_val (.agg ci.toArray) rfl rfl (val_load ci hT rfl rfl (by rw [hci.length]; rfl) hra) ?_
        refine au ?_
        refine pl_num (((most - nn : Nat) : Int)) rfl rfl rfl rfl rfl (by simp only [ariP]; omega) ?_
        have hsz := szEs_at hget
        have hsu := szEs_succ hget
        refine pl_op rfl rfl (opTo_call rfl rfl rfl rfl (by decide +kernel) ((ih l[i] (by omega) (most - nn) hci (hF.keep hk2) (by omega)).mono ?_))
        rintro v3 w3 ⟨rfl, hk3⟩
        refine pl_num (((nn + min (szE l[i]) (most - nn + 1) : Nat) : Int)) rfl rfl rfl rfl rfl (by simp only [ariP]; omega) ?_
        refine au ?_
        refine pl_num (((i + 1 : Nat) : Int)) rfl rfl rfl rfl rfl (by simp only [ariP]; omega) ?_
        refine au ?_
        refine rn_sub ?_ (ih2 (l.length - (i + 1)) [(1, .int .i64 (most : Nat)), (2, .pointer (some ⟨b, 0, none⟩)), (5, .int .i64 ((nn + min (szE l[i]) (most - nn + 1) : Nat) : Int)), (6, .int .i64 ((i + 1 : Nat) : Int))] w3 (by omega)
          ⟨i + 1, _, by omega, rfl, rfl, by omega, hk3.blk hb2 (by simp), hk2.tr hk3⟩)
        exact ⟨rfl, rfl, rfl, rfl, trivial⟩
      · refine nay ?_
        refine au ?_
        refine rn_ret Tryz.func53 (.inl ⟨_, rfl, rfl⟩) ⟨?_, hk2⟩
        congr 1
        omega
    · refine nay ?_
      refine au ?_
      refine rn_ret Tryz.func53 (.inl ⟨_, rfl, rfl⟩) ⟨?_, hk2⟩
      have : l.take i = l := List.take_of_length_le (by omega)
      rw [this] at hn
      congr 1
      omega

/-- As many as they are, as far as so many. -/
def Cnt (s most x : Nat) : Prop := (s ≤ most → x = s) ∧ (most < s → most < x) ∧ x ≤ 2 * most + 3

theorem stmtParts_ret : ∀ (k : Nat) (l : List ST), szSs l < k → ∀ {F : Nat → Prop} {w : World} {x : Value} (most : Nat), StmtsV F w x l → In F w → most ≤ 900 →
    Ret Tryz.prog 35 [x, .int .i64 (most : Nat)] w fun v w' => ∃ c : Nat, v = .int .i64 (c : Nat) ∧ Cnt (szSs l) most c ∧ Keep [] w w' := by
  intro k
  induction k with
  | zero => intro l ht; omega
  | succ k ih =>
    intro l ht F w x most h hF hm
    obtain ⟨a, cap, rfl⟩ := h.form
    refine ret_of 69 Tryz.func35 rfl rfl (by simp) ?_
    refine au ?_
    refine rn_ind (fun m σ w' => ∃ i nn : Nat, i ≤ l.length ∧ m = l.length - i ∧ σ = [(0, .slice a l.length cap), (1, .int .i64 (most : Nat)), (5, .int .i64 (nn : Nat)), (6, .int .i64 (i : Nat))] ∧ Cnt (szSs (l.take i)) most nn ∧ Keep [] w w')
      l.length _ ?_ ⟨0, 0, by omega, by omega, rfl, by simp [szSs, Cnt], Keep.refl _ _⟩ ?_
    · exact ⟨rfl, rfl, rfl, rfl, trivial⟩
    rintro m σ w2 ih2 ⟨i, nn, hi, rfl, rfl, ⟨hn1, hn2, hn3⟩, hk2⟩
    refine au ?_
    have hle := szSs_take l i
    have hge := szSs_ge hi
    by_cases hlt : i < l.length
    · refine ye ?_
      refine au ?_
      by_cases hnm : nn ≤ most
      · refine ye ?_
        refine au ?_
        have hget : l[i]? = some l[i] := List.getElem?_eq_getElem hlt
        have hsz := szSs_at hget
        have hsu := szSs_succ hget
        obtain ⟨op, v, e, f, lb, lo, hs⟩ : ∃ op v e f lb lo, l[i] = ST.mk op v e f lb lo := by cases l[i]; exact ⟨_, _, _, _, _, _, rfl⟩
        rw [hs] at hget hsz hsu
        simp only [szS] at hsz hsu
        obtain ⟨bb, q, cap', ce, cf, bv, ov, hv, hst⟩ := (h.keep hk2 hF.stays).stmtAt hget
        cases hv
        have hF2 := hF.keep hk2
        refine rn_draw (fun w' => Keep [] w2 w') [] hMix ?_
        have hS : Keep [] w2 w2.drew := (Keep.refl _ _).drew
        generalize w2.drew = w3 at *
        refine tk 0 ?_
        refine tk 1 ?_
        refine tk 2 ?_
        refine dr_any 3 _ rfl (by decide +kernel) rfl rfl (fun w => val_index i hT rfl rfl rfl rfl rfl hlt w) ?_
        refine tk 4 ?_
        refine dr_val 5 (.agg ce.toArray) rfl (by decide +kernel) rfl rfl (fun w' hS => val_load ce hT rfl rfl (by rw [hst.he.length]; rfl) (hst.keep hS hF2.stays).re) hS ?_
        refine tk 6 ?_
        refine tk 7 ?_
        refine dr_num 8 (((most - nn : Nat) : Int)) rfl (by decide +kernel) rfl rfl rfl rfl rfl (by simp only [ariP]; omega) ?_
        refine tk 11 ?_
        refine tk 12 ?_
        refine dr_any 13 _ rfl (by decide +kernel) rfl rfl (fun w => val_index i hT rfl rfl rfl rfl rfl hlt w) ?_
        refine tk 14 ?_
        refine dr_val 15 (.agg cf.toArray) rfl (by decide +kernel) rfl rfl (fun w' hS => val_load cf hT rfl rfl (by rw [hst.hf.length]; rfl) (hst.keep hS hF2.stays).rf) hS ?_
        refine tk 16 ?_
        refine tk 17 ?_
        refine dr_num 18 (((most - nn : Nat) : Int)) rfl (by decide +kernel) rfl rfl rfl rfl rfl (by simp only [ariP]; omega) ?_
        refine dr_op 9 rfl (by decide +kernel) rfl rfl (opTo_call rfl rfl rfl rfl (by decide +kernel) ((exprParts_ret _ e (Nat.le_refl _) (most - nn) (hst.keep hS hF2.stays).he (hF2.keep hS) (by omega)).mono ?_))
        rintro v4 w4 ⟨rfl, hk4⟩
        replace hS := hS.tr hk4
        refine ⟨fun _ => hS, ?_⟩
        refine dr_num 10 (((1 + min (szE e) (most - nn + 1) : Nat) : Int)) rfl (by decide +kernel) rfl rfl rfl rfl rfl (by simp only [ariP]; omega) ?_
        refine dr_op 19 rfl (by decide +kernel) rfl rfl (opTo_call rfl rfl rfl rfl (by decide +kernel) ((exprParts_ret _ f (Nat.le_refl _) (most - nn) (hst.keep hS hF2.stays).hf (hF2.keep hS) (by omega)).mono ?_))
        rintro v5 w5 ⟨rfl, hk5⟩
        replace hS := hS.tr hk5
        refine ⟨fun _ => hS, ?_⟩
        refine dr_num 20 (((1 + min (szE e) (most - nn + 1) + min (szE f) (most - nn + 1) : Nat) : Int)) rfl (by decide +kernel) rfl rfl rfl rfl rfl (by simp only [ariP]; omega) ?_
        refine dr_num 21 (((nn + (1 + min (szE e) (most - nn + 1) + min (szE f) (most - nn + 1)) : Nat) : Int)) rfl (by decide +kernel) rfl rfl rfl rfl rfl (by simp only [ariP]; omega) ?_
        refine tk 22 ?_
        refine dr_done (by decide +kernel) ?_
        replace hst := hst.keep hS hF2.stays
        replace hF2 := hF2.keep hS
        replace hk2 := hk2.tr hS
        have hc : Cnt (szSs (l.take i) + (1 + szE e + szE f)) most (nn + (1 + min (szE e) (most - nn + 1) + min (szE f) (most - nn + 1))) := by
          refine ⟨fun h => ?_, fun h => ?_, ?_⟩ <;> omega
        generalize nn + (1 + min (szE e) (most - nn + 1) + min (szE f) (most - nn + 1)) = n1 at *
        obtain ⟨hc1, hc2, hc3⟩ := hc
        refine au ?_
        by_cases h1 : n1 ≤ most
        · refine ye ?_
          refine au ?_
          refine pl_val _ rfl rfl (val_index i hT rfl rfl rfl rfl rfl hlt w5) ?_
          refine au ?_
          refine pl_val _ rfl rfl (val_load1 hT rfl rfl rfl (hst.cb)) ?_
          refine au ?_
          refine pl_num (((most - n1 : Nat) : Int)) rfl rfl rfl rfl rfl (by simp only [ariP]; omega) ?_
          refine pl_op rfl rfl (opTo_call rfl rfl rfl rfl (by decide +kernel) ((ih lb (by omega) (most - n1) hst.hb hF2 (by omega)).mono ?_))
          rintro v6 w6 ⟨c6, rfl, ⟨hd1, hd2, hd3⟩, hk6⟩
          refine pl_num (((n1 + c6 : Nat) : Int)) rfl rfl rfl rfl rfl (by simp only [ariP]; omega) ?_
          refine au ?_
          replace hst := hst.keep hk6 hF2.stays
          replace hF2 := hF2.keep hk6
          replace hk2 := hk2.tr hk6
          by_cases h2 : n1 + c6 ≤ most
          · refine ye ?_
            refine au ?_
            refine pl_val _ rfl rfl (val_index i hT rfl rfl rfl rfl rfl hlt w6) ?_
            refine au ?_
            refine pl_val _ rfl rfl (val_load1 hT rfl rfl rfl (hst.co)) ?_
            refine au ?_
            refine pl_num (((most - (n1 + c6) : Nat) : Int)) rfl rfl rfl rfl rfl (by simp only [ariP]; omega) ?_
            refine pl_op rfl rfl (opTo_call rfl rfl rfl rfl (by decide +kernel) ((ih lo (by omega) (most - (n1 + c6)) hst.ho hF2 (by omega)).mono ?_))
            rintro v7 w7 ⟨c7, rfl, ⟨he1, he2, he3⟩, hk7⟩
            refine pl_num (((n1 + c6 + c7 : Nat) : Int)) rfl rfl rfl rfl rfl (by simp only [ariP]; omega) ?_
            refine au ?_
            refine pl_num (((i + 1 : Nat) : Int)) rfl rfl rfl rfl rfl (by simp only [ariP]; omega) ?_
            refine au ?_
            refine rn_sub ?_ (ih2 (l.length - (i + 1)) [(0, .slice (some ⟨bb, q, none⟩) l.length cap), (1, .int .i64 (most : Nat)), (5, .int .i64 ((n1 + c6 + c7 : Nat) : Int)), (6, .int .i64 ((i + 1 : Nat) : Int))] w7 (by omega)
              ⟨i + 1, _, by omega, rfl, rfl, ?_, hk2.tr hk7⟩)
            · exact ⟨rfl, rfl, rfl, rfl, trivial⟩
            · refine ⟨fun h => ?_, fun h => ?_, ?_⟩ <;> omega
          · refine nay ?_
            refine au ?_
            refine pl_num (((i + 1 : Nat) : Int)) rfl rfl rfl rfl rfl (by simp only [ariP]; omega) ?_
            refine au ?_
            refine rn_sub ?_ (ih2 (l.length - (i + 1)) [(0, .slice (some ⟨bb, q, none⟩) l.length cap), (1, .int .i64 (most : Nat)), (5, .int .i64 ((n1 + c6 : Nat) : Int)), (6, .int .i64 ((i + 1 : Nat) : Int))] w6 (by omega)
              ⟨i + 1, _, by omega, rfl, rfl, ?_, hk2⟩)
            · exact ⟨rfl, rfl, rfl, rfl, trivial⟩
            · refine ⟨fun h => ?_, fun h => ?_, ?_⟩ <;> omega
        · refine nay ?_
          refine au ?_
          refine nay ?_
          refine au ?_
          refine pl_num (((i + 1 : Nat) : Int)) rfl rfl rfl rfl rfl (by simp only [ariP]; omega) ?_
          refine au ?_
          refine rn_sub ?_ (ih2 (l.length - (i + 1)) [(0, .slice (some ⟨bb, q, none⟩) l.length cap), (1, .int .i64 (most : Nat)), (5, .int .i64 ((n1 : Nat) : Int)), (6, .int .i64 ((i + 1 : Nat) : Int))] w5 (by omega)
              ⟨i + 1, _, by omega, rfl, rfl, ?_, hk2⟩)
          · exact ⟨rfl, rfl, rfl, rfl, trivial⟩
          · refine ⟨fun h => ?_, fun h => ?_, ?_⟩ <;> omega
      · refine nay ?_
        refine au ?_
        refine rn_ret Tryz.func35 (.inl ⟨_, rfl, rfl⟩) ⟨nn, rfl, ?_, hk2⟩
        refine ⟨fun h => ?_, fun h => ?_, ?_⟩ <;> omega
    · refine nay ?_
      refine au ?_
      refine rn_ret Tryz.func35 (.inl ⟨_, rfl, rfl⟩) ⟨nn, rfl, ?_, hk2⟩
      have : l.take i = l := List.take_of_length_le (by omega)
      rw [this] at hn1 hn2
      exact ⟨hn1, hn2, hn3⟩
end E
end Go.Proofs.YtmplkogkphmmjagGreat

/- Contracts of package code's smallest functions: what a kind has, what a name is. -/
namespace Go.Proofs.YtmplkogkphmmjagGreat
set_option maxRecDepth 20000
set_option maxHeartbeats 4000000
namespace E
open Go.Proofs

theorem parts_ret (op : Int) (w : World) : Ret Tryz.prog 101 [.int .i64 op] w fun v w' => v = .int .i64 (partsOf op) ∧ w' = w := by
  refine ret_of 20 Tryz.func101 rfl rfl (by simp) ?_
  have h : op < 1 ∨ op > 8 ∨ op = 1 ∨ op = 2 ∨ op = 3 ∨ (4 ≤ op ∧ op ≤ 8) := by omega
  rcases h with h | h | h | h | h | h <;> (refine aub ?_; refine rn_ret Tryz.func101 (.inl ⟨_, rfl, rfl⟩) ⟨?_, rfl⟩; congr 1; (unfold partsOf; repeat' split) <;> omega)

def hasV (op : Int) : Value := .tuple #[.bool (needE op), .bool (needF op), .bool (needV op), .bool (needB op), .bool (needO op)]

theorem has_ret (op : Int) (w : World) : Ret Tryz.prog 73 [.int .i64 op] w fun v w' => v = hasV op ∧ w' = w := by
  refine ret_of 20 Tryz.func73 rfl rfl (by simp) ?_
  have h : op = 1 ∨ op = 2 ∨ op = 3 ∨ op = 4 ∨ op = 5 ∨ op = 6 ∨ (op ≠ 1 ∧ op ≠ 2 ∧ op ≠ 3 ∧ op ≠ 4 ∧ op ≠ 5 ∧ op ≠ 6) := by omega
  rcases h with h | h | h | h | h | h | h
  · subst h; refine aub ?_; exact rn_ret5 Tryz.func73 rfl rfl rfl rfl rfl rfl ⟨rfl, rfl⟩
  · subst h; refine aub ?_; exact rn_ret5 Tryz.func73 rfl rfl rfl rfl rfl rfl ⟨rfl, rfl⟩
  · subst h; refine aub ?_; exact rn_ret5 Tryz.func73 rfl rfl rfl rfl rfl rfl ⟨rfl, rfl⟩
  · subst h; refine aub ?_; exact rn_ret5 Tryz.func73 rfl rfl rfl rfl rfl rfl ⟨rfl, rfl⟩
  · subst h; refine aub ?_; exact rn_ret5 Tryz.func73 rfl rfl rfl rfl rfl rfl ⟨rfl, rfl⟩
  · subst h; refine aub ?_; exact rn_ret5 Tryz.func73 rfl rfl rfl rfl rfl rfl ⟨rfl, rfl⟩
  · refine aub ?_
    refine rn_ret5 Tryz.func73 rfl rfl rfl rfl rfl rfl ⟨?_, rfl⟩
    simp [hasV, needE, needF, needV, needB, needO, h]

theorem str_at {s : ByteArray} {j : Nat} (h : j < s.size) : s[j]? = some (s.data.toList[j]'(by simpa using h)) := by
  rw [getElem?_pos s j h]
  rfl

theorem all_take_succ {l : List UInt8} {i : Nat} (h : i < l.length) : (l.take (i + 1)).all letter = ((l.take i).all letter && letter l[i]) := by
  rw [List.take_succ_eq_append_getElem h, List.all_append]
  simp only [List.all_cons, List.all_nil, Bool.and_true]
theorem all_take_false {l : List UInt8} {i : Nat} (h : i < l.length) (hl : letter l[i] = false) : l.all letter = false := by
  rw [List.all_eq_false]
  exact ⟨l[i], List.getElem_mem h, by simp [hl]⟩

theorem name_ret (s : ByteArray) (w : World) : Ret Tryz.prog 67 [.string s] w fun v w' => v = .bool (nameOk s) ∧ w' = w := by
  refine ret_of 28 Tryz.func67 rfl rfl (by simp) ?_
  refine au ?_
  refine pl_val _ rfl rfl (val_strLen s (by decide +kernel) rfl rfl w) ?_
  by_cases h1 : s.size < 1
  · refine aub ?_
    refine rn_ret Tryz.func67 (.inl ⟨_, rfl, rfl⟩) ⟨?_, rfl⟩
    have : ¬ 1 ≤ s.size := by omega
    simp [nameOk, this]
  · refine aub ?_
    refine pl_val _ rfl rfl (val_strLen s (by decide +kernel) rfl rfl w) ?_
    by_cases h2 : s.size > 8
    · refine aub ?_
      refine rn_ret Tryz.func67 (.inl ⟨_, rfl, rfl⟩) ⟨?_, rfl⟩
      have : ¬ s.size ≤ 8 := by omega
      simp [nameOk, this]
    · refine aub ?_
      refine pl_val _ rfl rfl (val_strLen s (by decide +kernel) rfl rfl w) ?_
      refine au ?_
      have hsz : s.data.toList.length = s.size := by simp
      refine rn_ind (fun m σ w' => ∃ i : Nat, i ≤ s.size ∧ m = s.size - i ∧ σ = [(0, .string s), (13, .int .i64 (s.size : Nat)), (14, .int .i64 (i : Nat))] ∧ (s.data.toList.take i).all letter = true ∧ w' = w) s.size _ ?_ ⟨0, by omega, by omega, rfl, by simp, rfl⟩ ?_
      · exact ⟨rfl, rfl, rfl, trivial⟩
      rintro m σ w2 ih ⟨i, hi, rfl, rfl, hall, rfl⟩
      by_cases hlt : i < s.size
      · refine aub ?_
        have hat := str_at hlt
        have hs := all_take_succ (l := s.data.toList) (i := i) (by omega)
        have hf := all_take_false (l := s.data.toList) (i := i) (by omega)
        generalize s.data.toList[i]'(by omega) = c at *
        refine pl_val _ rfl rfl (val_strAt s i c (by decide +kernel) rfl rfl rfl rfl hat w2) ?_
        by_cases h3 : c.toNat < 97
        · refine aub ?_
          refine rn_ret Tryz.func67 (.inl ⟨_, rfl, rfl⟩) ⟨?_, rfl⟩
          rw [nameOk, hf (by simp [letter]; omega)]
          rfl
        · refine aub ?_
          refine pl_val _ rfl rfl (val_strAt s i c (by decide +kernel) rfl rfl rfl rfl hat w2) ?_
          by_cases h4 : c.toNat > 122
          · refine aub ?_
            refine rn_ret Tryz.func67 (.inl ⟨_, rfl, rfl⟩) ⟨?_, rfl⟩
            rw [nameOk, hf (by simp [letter]; omega)]
            rfl
          · refine aub ?_
            refine pl_num (((i + 1 : Nat) : Int)) rfl rfl rfl rfl rfl (by simp only [ariP]; omega) ?_
            refine au ?_
            refine rn_sub ?_ (ih (s.size - (i + 1)) [(0, .string s), (13, .int .i64 (s.size : Nat)), (14, .int .i64 ((i + 1 : Nat) : Int))] w2 (by omega) ⟨i + 1, by omega, rfl, rfl, ?_, rfl⟩)
            · exact ⟨rfl, rfl, rfl, trivial⟩
            · rw [hs, hall]
              simp [letter]
              omega
      · refine aub ?_
        refine rn_ret Tryz.func67 (.inl ⟨_, rfl, rfl⟩) ⟨?_, rfl⟩
        rw [List.take_of_length_le (by omega)] at hall
        have e1 : 1 ≤ s.size := by omega
        have e2 : s.size ≤ 8 := by omega
        simp only [nameOk, hall, e1, e2, decide_true, Bool.and_self]

theorem zeroE_eq (op v n : Int) (l : List ET) : zeroE (.mk op v n l) = (decide (op = 0) && decide (v = 0) && decide (n = 0) && decide (l.length = 0)) := by
  cases l with
  | nil => simp only [zeroE, List.isEmpty, List.length, decide_true, Bool.and_true]; rfl
  | cons x r => simp [zeroE]

theorem isZero_ret {F : Nat → Prop} {w : World} {cs : List Value} {t : ET} (h : ExprV F w cs t) : Ret Tryz.prog 92 [.agg cs.toArray] w fun v w' => v = .bool (zeroE t) ∧ Keep [] w w' := by
  obtain ⟨op, v, n, l⟩ := t
  obtain ⟨lv, rfl, hl⟩ := h.inv
  obtain ⟨a, cap, rfl⟩ := hl.form
  refine ret_of 22 Tryz.func92 rfl rfl (by simp) ?_
  refine au ?_
  refine pl_op rfl rfl (opTo_box [.int .i64 op, .int .i64 v, .int .i64 n, .slice a l.length cap] rfl rfl rfl ?_)
  have hk0 : Keep [] w (w.alloc (.cells [.int .i64 op, .int .i64 v, .int .i64 n, .slice a l.length cap].toArray 94)) := (Keep.refl _ _).alloc _
  have hb0 : Blk (w.alloc (.cells [.int .i64 op, .int .i64 v, .int .i64 n, .slice a l.length cap].toArray 94)) w.heap.size [.int .i64 op, .int .i64 v, .int .i64 n, .slice a l.length cap] 94 := Blk.new _ _ _
  generalize (w.alloc (.cells [.int .i64 op, .int .i64 v, .int .i64 n, .slice a l.length cap].toArray 94)) = w1 at *
  generalize w.heap.size = b at *
  rw [zeroE_eq]
  by_cases h1 : op = 0
  · by_cases h2 : v = 0
    · by_cases h3 : n = 0
      · by_cases h4 : l.length = 0
        · refine aub ?_
          exact rn_ret Tryz.func92 (.inl ⟨_, rfl, rfl⟩) ⟨by simp [h1, h2, h3, h4], hk0⟩
        · refine aub ?_
          exact rn_ret Tryz.func92 (.inl ⟨_, rfl, rfl⟩) ⟨by simp [h1, h2, h3, h4], hk0⟩
      · refine aub ?_
        exact rn_ret Tryz.func92 (.inl ⟨_, rfl, rfl⟩) ⟨by simp [h1, h2, h3], hk0⟩
    · refine aub ?_
      exact rn_ret Tryz.func92 (.inl ⟨_, rfl, rfl⟩) ⟨by simp [h1, h2], hk0⟩
  · refine aub ?_
    exact rn_ret Tryz.func92 (.inl ⟨_, rfl, rfl⟩) ⟨by simp [h1], hk0⟩
end E
end Go.Proofs.YtmplkogkphmmjagGreat
