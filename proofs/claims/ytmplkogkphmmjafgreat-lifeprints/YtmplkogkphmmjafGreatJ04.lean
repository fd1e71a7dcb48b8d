/- Several texts in one: TreeRd, TreeV, Res2, Step, TbP, CmR, BeA, BeB, BeC, CmG, TreeB. -/
import Derived.Test.YtmplkogkphmmjafGreatJ03
import Derived.Test.YtmplkogkphmmjafGreatJ01
import Derived.Test.YtmplkogkphmmjafGreatProg
import Derived.Test.YtmplkogkphmmjafGreatJ02
/- Reading an argument: trees of expressions and of statements. -/
namespace Go.Proofs.YtmplkogkphmmjafGreat
set_option maxRecDepth 20000
set_option maxHeartbeats 4000000
namespace E

section
variable {H : Type} {enc : TypeId × Value → H} {P : Program} {w : World} {base : Nat} {spare : Nat → Bool} {held : Bool}

theorem open_rows {α : Type} {Q : List Value → α → Prop} {fuel : Nat} {t e : TypeId} {cs : List Value} {x : DataW H × List MemPlace} (k : Nat) (hk : 0 < k) (ht : P.underlying t = some (.slice e)) (hc : P.cellsOf e = k)
    (hel : ∀ n, n < fuel → ∀ cs x, DataW.trod enc P w base spare held n e cs = some x → ∃ s, Q cs s) (h : DataW.trod enc P w base spare held fuel t cs = some x) :
    ∃ (a : Option Addr) (cap : Nat) (L : List α) (cc : Nat → List Value), cs = [.slice a L.length cap] ∧ RowAt (fun b => b < w.heap.size) w k a L.length cc ∧ (∀ i (hi : i < L.length), Q (cc i) (L[i]'hi)) ∧ L.length ≤ cap := by
  rcases DataW.trod_slice ht h with ⟨hcs, _⟩ | ⟨a, len, cap, elems, rest, n, hn, hcs, _, _, hcap, _, hlen, hall, _⟩
  · exact ⟨none, 0, [], fun _ => [], hcs, fun h => absurd h (by simp), fun i hi => by simp at hi, by simp⟩
  · rw [hc] at hall
    have hel' : ∀ i, i < len → ∃ s : List Value × α, Q s.1 s.2 ∧ w.cells? base (a.add (i * k)) k = some s.1 := fun i hi => by
      have h1 := hall i hi
      rw [List.getElem?_eq_getElem (by omega)] at h1
      cases hcl : w.cells? base (a.add (i * k)) k with
      | none => rw [hcl] at h1; cases h1
      | some cs' =>
        rw [hcl] at h1
        obtain ⟨s, hs⟩ := hel n (by omega) cs' _ h1
        exact ⟨(cs', s), hs, rfl⟩
    obtain ⟨L, hL, hp⟩ := choose_list len hel'
    have hget : ∀ i (hi : i < L.length), (((L[i]?).map (·.1)).getD []) = (L[i]'hi).1 := fun i hi => by rw [List.getElem?_eq_getElem hi]; rfl
    refine ⟨some a, cap, L.map (·.2), fun i => ((L[i]?).map (·.1)).getD [], by rw [hcs, List.length_map, hL], ?_, fun i hi => ?_, by rw [List.length_map, hL]; exact hcap⟩
    · intro h0
      rw [List.length_map] at h0
      have hcell : ∀ i (hi : i < L.length) j v, (L[i]'hi).1[j]? = some v → w.cell? (a.add (i * k + j)) = some v := fun i hi j v hv => by
        have := (cells?_get (hp i _ (List.getElem?_eq_getElem hi)).2).2 j v hv
        rwa [Go.Deep.add_add] at this
      have hl0 : (L[0]'h0).1.length = k := (cells?_get (hp 0 _ (List.getElem?_eq_getElem h0)).2).1
      have hc0 := hcell 0 h0 0 ((L[0]'h0).1[0]'(by omega)) (List.getElem?_eq_getElem (by omega))
      have hsp : a.spot = none := by
        have := World.cell?_spot hc0
        simpa [Addr.add] using this
      obtain ⟨b, q, sp⟩ := a
      simp only at hsp
      subst hsp
      refine ⟨b, q, rfl, ?_, fun i hi j v hv => ?_⟩
      · have := World.block_lt_of_cell? w _ hc0
        simpa [Addr.add] using this
      · rw [List.length_map] at hi
        replace hv : (((L[i]?).map (·.1)).getD [])[j]? = some v := hv
        rw [hget i hi] at hv
        have := hcell i hi j v hv
        rw [Addr.add_mid] at this
        rw [Nat.add_assoc]
        exact this
    · rw [List.length_map] at hi
      show Q (((L[i]?).map (·.1)).getD []) _
      rw [hget i hi, List.getElem_map]
      exact (hp i _ (List.getElem?_eq_getElem hi)).1

/-- An expression's four cells, each read. -/
def ExprSplit (enc : TypeId × Value → H) (P : Program) (w : World) (base : Nat) (spare : Nat → Bool) (held : Bool) (tI tL tLE tE : TypeId) : Prop :=
  ∀ fuel cs x, DataW.trod enc P w base spare held fuel tE cs = some x → ∃ n c0 c1 c2 c3, fuel = n + 1 ∧ cs = [c0, c1, c2, c3] ∧
    (∃ y, DataW.trod enc P w base spare held n tI [c0] = some y) ∧ (∃ y, DataW.trod enc P w base spare held n tI [c1] = some y) ∧ (∃ y, DataW.trod enc P w base spare held n tL [c2] = some y) ∧ (∃ y, DataW.trod enc P w base spare held n tLE [c3] = some y)
/-- A statement's cells, each part read. -/
def StmtSplit (enc : TypeId × Value → H) (P : Program) (w : World) (base : Nat) (spare : Nat → Bool) (held : Bool) (tI tE tLS tS : TypeId) : Prop :=
  ∀ fuel cs x, DataW.trod enc P w base spare held fuel tS cs = some x → ∃ n c0 c1 ce cf cb co, fuel = n + 1 ∧ cs = [c0, c1] ++ ce ++ cf ++ [cb, co] ∧
    (∃ y, DataW.trod enc P w base spare held n tI [c0] = some y) ∧ (∃ y, DataW.trod enc P w base spare held n tI [c1] = some y) ∧ (∃ y, DataW.trod enc P w base spare held n tE ce = some y) ∧ (∃ y, DataW.trod enc P w base spare held n tE cf = some y) ∧
    (∃ y, DataW.trod enc P w base spare held n tLS [cb] = some y) ∧ (∃ y, DataW.trod enc P w base spare held n tLS [co] = some y)

theorem int_cell {tI : TypeId} {n : Nat} {c : Value} {y : DataW H × List MemPlace} (hI : P.underlying tI = some (.int .i64)) (h : DataW.trod enc P w base spare held n tI [c] = some y) : ∃ z, c = .int .i64 z := by
  obtain ⟨z, hz, _⟩ := trod_int1 hI h
  simp at hz
  exact ⟨z, hz⟩

theorem trod_expr {tI tL tLE tE : TypeId} (hI : P.underlying tI = some (.int .i64)) (hL : P.underlying tL = some (.int .i64)) (hLE : P.underlying tLE = some (.slice tE)) (hc : P.cellsOf tE = 4) (hsp : ExprSplit enc P w base spare held tI tL tLE tE) :
    ∀ (fuel : Nat) (cs : List Value) (x : DataW H × List MemPlace), DataW.trod enc P w base spare held fuel tE cs = some x → ∃ t, ExprV (fun b => b < w.heap.size) w cs t := by
  intro fuel
  induction fuel using Nat.strongRecOn with
  | _ fuel ih =>
    intro cs x h
    obtain ⟨n, c0, c1, c2, c3, hn, rfl, ⟨_, h0⟩, ⟨_, h1⟩, ⟨_, h2⟩, ⟨_, h3⟩⟩ := hsp fuel cs x h
    obtain ⟨op, rfl⟩ := int_cell hI h0
    obtain ⟨v, rfl⟩ := int_cell hI h1
    obtain ⟨z, rfl⟩ := int_cell hL h2
    obtain ⟨a, cap, L, cc, hcs, hr, hq, _⟩ := open_rows (Q := ExprV (fun b => b < w.heap.size) w) 4 (by decide) hLE hc (fun m hm cs x h => ih m (by omega) cs x h) h3
    simp at hcs
    subst hcs
    exact ⟨.mk op v z L, .mk cc hr hq⟩

theorem trod_stmt {tI tL tLE tE tLS tS : TypeId} (hI : P.underlying tI = some (.int .i64)) (hL : P.underlying tL = some (.int .i64)) (hLE : P.underlying tLE = some (.slice tE)) (hc : P.cellsOf tE = 4) (hsp : ExprSplit enc P w base spare held tI tL tLE tE)
    (hLS : P.underlying tLS = some (.slice tS)) (hcS : P.cellsOf tS = 12) (hspS : StmtSplit enc P w base spare held tI tE tLS tS) :
    ∀ (fuel : Nat) (cs : List Value) (x : DataW H × List MemPlace), DataW.trod enc P w base spare held fuel tS cs = some x → ∃ t, StmtV (fun b => b < w.heap.size) w cs t := by
  intro fuel
  induction fuel using Nat.strongRecOn with
  | _ fuel ih =>
    intro cs x h
    obtain ⟨n, c0, c1, ce, cf, cb, co, hn, rfl, ⟨_, h0⟩, ⟨_, h1⟩, ⟨_, h2⟩, ⟨_, h3⟩, ⟨_, h4⟩, ⟨_, h5⟩⟩ := hspS fuel cs x h
    obtain ⟨op, rfl⟩ := int_cell hI h0
    obtain ⟨v, rfl⟩ := int_cell hI h1
    obtain ⟨e, he⟩ := trod_expr hI hL hLE hc hsp n ce _ h2
    obtain ⟨f, hf⟩ := trod_expr hI hL hLE hc hsp n cf _ h3
    obtain ⟨ab, capb, Lb, ccb, hcb, hrb, hqb, _⟩ := open_rows (Q := StmtV (fun b => b < w.heap.size) w) 12 (by decide) hLS hcS (fun m hm cs x h => ih m (by omega) cs x h) h4
    obtain ⟨ao, capo, Lo, cco, hco, hro, hqo, _⟩ := open_rows (Q := StmtV (fun b => b < w.heap.size) w) 12 (by decide) hLS hcS (fun m hm cs x h => ih m (by omega) cs x h) h5
    simp at hcb hco
    subst hcb
    subst hco
    exact ⟨.mk op v e f Lb Lo, .mk ccb cco he hf hrb hqb hro hqo⟩
end
end E
end Go.Proofs.YtmplkogkphmmjafGreat

/- Variables of a program, as they lie in memory and as they are read. -/
namespace Go.Proofs.YtmplkogkphmmjafGreat
set_option maxRecDepth 20000
set_option maxHeartbeats 4000000
namespace E

def vcell (x : VarT) : List Value := [.string x.1, .int .i64 x.2]

/-- A slice of variables. -/
def VarsV (F : Nat → Prop) (w : World) (v : Value) (l : List VarT) : Prop :=
  ∃ a cap, v = .slice a l.length cap ∧ l.length ≤ cap ∧ RowAt F w 2 a l.length (fun i => vcell (l.getD i (ByteArray.empty, 0)))

section
variable {F F' : Nat → Prop} {w w' : World} {v : Value} {l : List VarT}
theorem VarsV.keep {fp : List Nat} (h : VarsV F w v l) (hk : Keep fp w w') (hs : Stays F w fp) : VarsV F w' v l := by
  obtain ⟨a, cap, hv, hc, hr⟩ := h
  exact ⟨a, cap, hv, hc, hr.keep hk hs⟩
theorem VarsV.mono (h : VarsV F w v l) (hF : ∀ b, F b → F' b) : VarsV F' w v l := by
  obtain ⟨a, cap, hv, hc, hr⟩ := h
  exact ⟨a, cap, hv, hc, hr.mono hF⟩
theorem VarsV.form (h : VarsV F w v l) : ∃ a cap, v = .slice a l.length cap := by
  obtain ⟨a, cap, hv, _⟩ := h
  exact ⟨a, cap, hv⟩
theorem VarsV.room {a : Option Addr} {cap : Nat} (h : VarsV F w (.slice a l.length cap) l) : l.length ≤ cap := by
  obtain ⟨a', cap', hv, hc, _⟩ := h
  cases hv
  exact hc
theorem VarsV.at (h : VarsV F w v l) {i : Nat} {x : VarT} (hx : l[i]? = some x) : ∃ b q cap, v = .slice (some ⟨b, q, none⟩) l.length cap ∧ F b ∧ w.rangeAt b (q + i * 2) (vcell x) := by
  obtain ⟨a, cap, hv, _, hr⟩ := h
  obtain ⟨hlt, e⟩ := List.getElem?_eq_some_iff.1 hx
  obtain ⟨b, q, ha, hF, hra⟩ := hr (by omega)
  have this : w.rangeAt b (q + i * 2) (vcell (l.getD i (ByteArray.empty, 0))) := hra i hlt
  rw [List.getD_eq_getElem?_getD, hx] at this
  exact ⟨b, q, cap, by rw [hv, ha], hF, this⟩
end

/-- A program as a value: its variables, its body. -/
def ProgV (F : Nat → Prop) (w : World) (v : Value) (vs : List VarT) (b : List ST) : Prop := ∃ vv bv, v = .agg #[vv, bv] ∧ VarsV F w vv vs ∧ StmtsV F w bv b
theorem ProgV.keep {F : Nat → Prop} {w w' : World} {v : Value} {vs : List VarT} {b : List ST} {fp : List Nat} (h : ProgV F w v vs b) (hk : Keep fp w w') (hs : Stays F w fp) : ProgV F w' v vs b := by
  obtain ⟨vv, bv, hv, h1, h2⟩ := h
  exact ⟨vv, bv, hv, h1.keep hk hs, h2.keep hk hs⟩
theorem ProgV.mono {F F' : Nat → Prop} {w : World} {v : Value} {vs : List VarT} {b : List ST} (h : ProgV F w v vs b) (hF : ∀ b, F b → F' b) : ProgV F' w v vs b := by
  obtain ⟨vv, bv, hv, h1, h2⟩ := h
  exact ⟨vv, bv, hv, h1.mono hF, h2.mono hF⟩

section
variable {H : Type} {enc : TypeId × Value → H} {P : Program} {w : World} {base : Nat} {spare : Nat → Bool} {held : Bool}
/-- A variable's two cells, each read. -/
def VarSplit (enc : TypeId × Value → H) (P : Program) (w : World) (base : Nat) (spare : Nat → Bool) (held : Bool) (tStr tI tV : TypeId) : Prop :=
  ∀ fuel cs x, DataW.trod enc P w base spare held fuel tV cs = some x → ∃ n c0 c1, fuel = n + 1 ∧ cs = [c0, c1] ∧ (∃ y, DataW.trod enc P w base spare held n tStr [c0] = some y) ∧ (∃ y, DataW.trod enc P w base spare held n tI [c1] = some y)

theorem trod_vars {tStr tI tLV tV : TypeId} (hS : P.underlying tStr = some .string) (hI : P.underlying tI = some (.int .i64)) (hLV : P.underlying tLV = some (.slice tV)) (hc : P.cellsOf tV = 2) (hsp : VarSplit enc P w base spare held tStr tI tV)
    {fuel : Nat} {cs : List Value} {x : DataW H × List MemPlace} (h : DataW.trod enc P w base spare held fuel tLV cs = some x) : ∃ vv l, cs = [vv] ∧ VarsV (fun b => b < w.heap.size) w vv l := by
  obtain ⟨a, cap, L, cc, hcs, hr, hq, hcap⟩ := open_rows (Q := fun cs (x : VarT) => cs = vcell x) 2 (by decide) hLV hc (fun m _ cs x h => by
    obtain ⟨n, c0, c1, _, rfl, ⟨_, h0⟩, ⟨_, h1⟩⟩ := hsp m cs x h
    obtain ⟨s, hs, _⟩ := DataW.trod_string hS h0
    obtain ⟨z, hz⟩ := int_cell hI h1
    simp at hs
    exact ⟨(s, z), by rw [hs, hz]; rfl⟩) h
  refine ⟨_, L, hcs, a, cap, rfl, hcap, fun h0 => ?_⟩
  obtain ⟨b, q, ha, hF, hra⟩ := hr h0
  refine ⟨b, q, ha, hF, fun i hi => ?_⟩
  have := hra i hi
  rw [hq i hi] at this
  show w.rangeAt b (q + i * 2) (vcell (L.getD i (ByteArray.empty, 0)))
  rw [List.getD_eq_getElem?_getD, List.getElem?_eq_getElem hi]
  exact this
end
end E
end Go.Proofs.YtmplkogkphmmjafGreat

/- Functions with several results; rows of trees that are being made. -/
namespace Go.Proofs.YtmplkogkphmmjafGreat
set_option maxRecDepth 20000
set_option maxHeartbeats 4000000
namespace E

section
variable {P : Program} {f n : Nat} {k : List Item} {K Kp : Value → World → Prop} {σ : Env} {w : World}

theorem rn_ret3 {fn : Func} {t0 t1 t2 : Nat} {v0 v1 v2 : Value} (hf : P.funcs[f]? = some fn) (hr : fn.results = #[.tmp t0, .tmp t1, .tmp t2]) (h0 : look σ t0 = some v0) (h1 : look σ t1 = some v1) (h2 : look σ t2 = some v2)
    (hR : K (.tuple #[v0, v1, v2]) w) : Rn P f n (.code .ret :: k) (endR K Kp) σ w := fun a ha hd =>
  runs_ret hf hd (by simp only [results, hr]; simp [ha.has t0 _ h0, ha.has t1 _ h1, ha.has t2 _ h2]) hR
theorem rn_ret5 {fn : Func} {t0 t1 t2 t3 t4 : Nat} {v0 v1 v2 v3 v4 : Value} (hf : P.funcs[f]? = some fn) (hr : fn.results = #[.tmp t0, .tmp t1, .tmp t2, .tmp t3, .tmp t4]) (h0 : look σ t0 = some v0) (h1 : look σ t1 = some v1) (h2 : look σ t2 = some v2)
    (h3 : look σ t3 = some v3) (h4 : look σ t4 = some v4) (hR : K (.tuple #[v0, v1, v2, v3, v4]) w) : Rn P f n (.code .ret :: k) (endR K Kp) σ w := fun a ha hd =>
  runs_ret hf hd (by simp only [results, hr]; simp [ha.has t0 _ h0, ha.has t1 _ h1, ha.has t2 _ h2, ha.has t3 _ h3, ha.has t4 _ h4]) hR
end

section
variable {w : World} {B e k : Nat} {v : Value}

theorem flatten_at {k : Nat} {ccs : List (List Value)} (hk : ∀ c ∈ ccs, c.length = k) {i : Nat} {c : List Value} (h : ccs[i]? = some c) : (ccs.flatten.drop (i * k)).take k = c := by
  have := flat_at (f := fun x : List Value => x) (k := k) hk h
  simpa [List.flatMap_id'] using this
theorem flatten_length {k : Nat} {ccs : List (List Value)} (hk : ∀ c ∈ ccs, c.length = k) : ccs.flatten.length = ccs.length * k := by
  have := flat_length (f := fun x : List Value => x) (k := k) hk
  simpa [List.flatMap_id'] using this

/-- A row that is owned, by its elements. -/
theorem own_rowAt {ccs : List (List Value)} (h : Own w B e k v ccs.length ccs.flatten) (hk : ∀ c ∈ ccs, c.length = k) :
    ∃ a cap, v = .slice a ccs.length cap ∧ RowAt (fun b => v.ownBlock = some b) w k a ccs.length (fun i => ccs.getD i []) := by
  obtain ⟨a, cap, hv⟩ := h.form
  refine ⟨a, cap, hv, fun h0 => ?_⟩
  obtain ⟨g, cap', hv', hr⟩ := h.range (q := 0) (cs := ccs.flatten) (by rw [List.drop_zero, List.take_length]) h0
  rw [hv] at hv'
  injection hv' with e1 e2 e3
  subst e1
  refine ⟨g, 0, rfl, by rw [hv]; rfl, fun i hi j u hu => ?_⟩
  replace hu : (ccs.getD i [])[j]? = some u := hu
  rw [List.getD_eq_getElem?_getD, List.getElem?_eq_getElem hi] at hu
  have hc := hk _ (List.getElem_mem hi)
  have hj : j < k := by
    have := (List.getElem?_eq_some_iff.1 hu).1
    simp only [Option.getD_some] at this
    omega
  have hat := flatten_at hk (List.getElem?_eq_getElem hi)
  simp only [Option.getD_some] at hu
  rw [← hat, List.getElem?_take, if_pos hj, List.getElem?_drop] at hu
  have := hr (i * k + j) u hu
  rwa [← Nat.add_assoc] at this

theorem exprs_of_own {F : Nat → Prop} {ccs : List (List Value)} {l : List ET} (h : Own w B e 4 v ccs.length ccs.flatten) (hl : ccs.length = l.length) (hc : ∀ i (hi : i < l.length), ExprV F w (ccs.getD i []) (l[i]'hi)) : ExprsV (fun b => v.ownBlock = some b ∨ F b) w v l := by
  have hk : ∀ c ∈ ccs, c.length = 4 := fun c hm => by
    obtain ⟨i, hi, rfl⟩ := List.mem_iff_getElem.1 hm
    have := (hc i (by omega)).length
    rwa [List.getD_eq_getElem?_getD, List.getElem?_eq_getElem hi] at this
  obtain ⟨a, cap, hv, hr⟩ := own_rowAt h hk
  rw [hl] at hv hr
  exact ⟨a, cap, _, hv, hr.mono fun b hb => .inl hb, fun i hi => (hc i hi).mono fun b hb => .inr hb⟩
theorem stmts_of_own {F : Nat → Prop} {ccs : List (List Value)} {l : List ST} (h : Own w B e 12 v ccs.length ccs.flatten) (hl : ccs.length = l.length) (hc : ∀ i (hi : i < l.length), StmtV F w (ccs.getD i []) (l[i]'hi)) : StmtsV (fun b => v.ownBlock = some b ∨ F b) w v l := by
  have hk : ∀ c ∈ ccs, c.length = 12 := fun c hm => by
    obtain ⟨i, hi, rfl⟩ := List.mem_iff_getElem.1 hm
    have := (hc i (by omega)).length
    rwa [List.getD_eq_getElem?_getD, List.getElem?_eq_getElem hi] at this
  obtain ⟨a, cap, hv, hr⟩ := own_rowAt h hk
  rw [hl] at hv hr
  exact ⟨a, cap, _, hv, hr.mono fun b hb => .inl hb, fun i hi => (hc i hi).mono fun b hb => .inr hb⟩
end
end E
end Go.Proofs.YtmplkogkphmmjafGreat

/- Trees' sizes. -/
namespace Go.Proofs.YtmplkogkphmmjafGreat
set_option maxRecDepth 20000
set_option maxHeartbeats 4000000
namespace E
theorem In.stays {F : Nat → Prop} {w : World} (h : In F w) : Stays F w [] := fun k hk => ⟨h k hk, by simp⟩
/-! ### Sizes -/
theorem szE_pos (t : ET) : 1 ≤ szE t := by cases t; simp only [szE]; omega
theorem szS_pos (t : ST) : 1 ≤ szS t := by cases t; simp only [szS]; omega
theorem szEs_len : ∀ (l : List ET), l.length ≤ szEs l
  | [] => by simp [szEs]
  | t :: r => by have := szEs_len r; have := szE_pos t; simp only [List.length_cons, szEs]; omega
theorem szSs_len : ∀ (l : List ST), l.length ≤ szSs l
  | [] => by simp [szSs]
  | t :: r => by have := szSs_len r; have := szS_pos t; simp only [List.length_cons, szSs]; omega
theorem szEs_append : ∀ (a b : List ET), szEs (a ++ b) = szEs a + szEs b
  | [], b => by simp [szEs]
  | t :: r, b => by simp only [List.cons_append, szEs, szEs_append r b]; omega
theorem szSs_append : ∀ (a b : List ST), szSs (a ++ b) = szSs a + szSs b
  | [], b => by simp [szSs]
  | t :: r, b => by simp only [List.cons_append, szSs, szSs_append r b]; omega
theorem szEs_succ {l : List ET} {i : Nat} {t : ET} (h : l[i]? = some t) : szEs (l.take (i + 1)) = szEs (l.take i) + szE t := by
  obtain ⟨hlt, e⟩ := List.getElem?_eq_some_iff.1 h
  rw [List.take_succ_eq_append_getElem hlt, szEs_append, e]
  simp [szEs]
theorem szSs_succ {l : List ST} {i : Nat} {t : ST} (h : l[i]? = some t) : szSs (l.take (i + 1)) = szSs (l.take i) + szS t := by
  obtain ⟨hlt, e⟩ := List.getElem?_eq_some_iff.1 h
  rw [List.take_succ_eq_append_getElem hlt, szSs_append, e]
  simp [szSs]
theorem szEs_take (l : List ET) (i : Nat) : szEs (l.take i) ≤ szEs l := by
  have e : szEs l = szEs (l.take i) + szEs (l.drop i) := by rw [← szEs_append, List.take_append_drop]
  omega
theorem szSs_take (l : List ST) (i : Nat) : szSs (l.take i) ≤ szSs l := by
  have e : szSs l = szSs (l.take i) + szSs (l.drop i) := by rw [← szSs_append, List.take_append_drop]
  omega
theorem szEs_ge {l : List ET} {i : Nat} (h : i ≤ l.length) : i ≤ szEs (l.take i) := by
  have := szEs_len (l.take i)
  rw [List.length_take] at this
  omega
theorem szSs_ge {l : List ST} {i : Nat} (h : i ≤ l.length) : i ≤ szSs (l.take i) := by
  have := szSs_len (l.take i)
  rw [List.length_take] at this
  omega
theorem szEs_at {l : List ET} {i : Nat} {t : ET} (h : l[i]? = some t) : szE t ≤ szEs l := by
  have := szEs_succ h
  have := szEs_take l (i + 1)
  omega
theorem szSs_at {l : List ST} {i : Nat} {t : ST} (h : l[i]? = some t) : szS t ≤ szSs l := by
  have := szSs_succ h
  have := szSs_take l (i + 1)
  omega
/-! ### Variables that are owned -/
theorem vars_of_own {w : World} {B e : Nat} {v : Value} {vs : List VarT} (h : Own w B e 2 v vs.length (vs.flatMap vcell)) : VarsV (fun b => B ≤ b ∧ b < w.heap.size) w v vs := by
  rcases h.2 with ⟨hv, h0⟩ | ⟨g, cap, cur, hv, hB, hb, hc, hl, ht⟩
  · have : vs = [] := List.eq_nil_of_length_eq_zero h0
    subst this
    exact ⟨none, 0, hv, by simp, fun h => absurd h (by simp)⟩
  · refine ⟨_, cap, hv, hc, fun h0 => ⟨g, 0, rfl, ⟨hB, hb.lt⟩, fun i hi => ?_⟩⟩
    have hx : vs[i]? = some vs[i] := List.getElem?_eq_getElem hi
    have hf := flat_at (f := vcell) (k := 2) (fun p _ => rfl) hx
    show w.rangeAt g (0 + i * 2) (vcell (vs.getD i (ByteArray.empty, 0)))
    rw [List.getD_eq_getElem?_getD, hx]
    rw [Nat.zero_add]
    refine hb.range ?_
    show (cur.drop (i * 2)).take 2 = vcell vs[i]
    rw [← hf, ← ht, List.drop_take, List.take_take, Nat.min_eq_left (by omega)]
end E
end Go.Proofs.YtmplkogkphmmjafGreat

/- What the proofs know of the program's types. -/
namespace Go.Proofs.YtmplkogkphmmjafGreat
set_option maxRecDepth 20000
set_option maxHeartbeats 4000000
namespace E
open Go.Proofs

def tbl : Tbl := { fld := [(24, [(0, 0), (1, 1)]), (25, [(0, 0), (1, 1)]), (34, [(0, 0), (1, 1), (2, 2)]), (35, [(0, 0), (1, 1), (2, 2)]), (44, [(0, 0), (1, 1), (2, 2), (3, 3)]), (45, [(0, 0), (1, 1), (2, 2), (3, 3)]), (61, [(0, 0), (1, 1)]), (62, [(0, 0), (1, 1)]), (64, [(0, 0), (1, 1), (2, 2), (3, 3), (4, 4), (5, 5)]), (65, [(0, 0), (1, 1), (2, 2), (3, 3), (4, 4), (5, 5)]), (66, [(0, 0), (1, 1)]), (67, [(0, 0), (1, 1)]), (70, [(0, 0), (1, 2), (2, 3)]), (71, [(0, 0), (1, 2), (2, 3)]), (75, [(0, 0), (1, 1), (2, 2), (3, 3), (4, 4), (5, 5)]), (76, [(0, 0), (1, 1), (2, 2), (3, 3), (4, 4), (5, 5)]), (80, [(0, 0), (1, 1), (2, 2), (3, 8), (4, 14), (5, 15)]), (81, [(0, 0), (1, 1), (2, 2), (3, 8), (4, 14), (5, 15)]), (87, [(0, 0), (1, 1)]), (88, [(0, 0), (1, 1)]), (89, [(0, 0), (1, 2), (2, 4), (3, 5), (4, 6)]), (90, [(0, 0), (1, 2), (2, 4), (3, 5), (4, 6)]), (93, [(0, 0), (1, 1), (2, 2), (3, 3)]), (94, [(0, 0), (1, 1), (2, 2), (3, 3)]), (96, [(0, 0), (1, 1), (2, 2), (3, 6), (4, 10), (5, 11)]), (97, [(0, 0), (1, 1), (2, 2), (3, 6), (4, 10), (5, 11)]), (100, [(0, 0)]), (101, [(0, 0)]), (102, [(0, 0), (1, 1)]), (103, [(0, 0), (1, 1)]), (106, [(0, 0), (1, 1), (2, 2), (3, 3)]), (107, [(0, 0), (1, 1), (2, 2), (3, 3)]), (112, [(0, 0), (1, 272)]), (113, [(0, 0), (1, 272)]), (128, [(0, 0), (1, 1), (2, 2), (3, 3)]), (132, [(0, 0), (1, 1), (2, 2), (3, 3), (4, 4), (5, 5)]), (133, [(0, 0), (1, 1), (2, 2), (3, 3), (4, 4), (5, 5)]), (138, [(0, 0), (1, 1), (2, 2), (3, 3), (4, 4)]), (139, [(0, 0), (1, 1), (2, 2), (3, 3), (4, 4)]), (141, [(0, 0)]), (142, [(0, 0)]), (148, [(0, 0), (1, 1), (2, 113)]), (149, [(0, 0), (1, 1), (2, 113)]), (151, [(0, 0)]), (152, [(0, 0)]), (177, [(0, 0), (1, 1), (2, 3)]), (178, [(0, 0), (1, 1), (2, 3)]), (183, [(0, 0), (1, 1)]), (184, [(0, 0), (1, 1)]), (203, [(0, 0), (1, 1)]), (204, [(0, 0), (1, 1)]), (208, [(0, 0), (1, 1), (2, 18), (3, 52)]), (209, [(0, 0), (1, 1), (2, 18), (3, 52)]), (230, [(0, 0), (1, 1), (2, 2), (3, 3), (4, 4), (5, 5), (6, 6), (7, 7), (8, 8), (9, 9), (10, 10)])], sl := [(22, 2), (23, 12), (26, 1), (27, 4), (54, 4), (77, 4), (92, 4), (111, 9), (125, 1), (172, 8), (197, 9), (207, 1)], ar := [(108, (8, 1)), (109, (8, 1)), (110, (34, 8)), (146, (112, 1)), (147, (14, 1)), (175, (2, 1)), (176, (14, 1)), (206, (34, 1)), (220, (0, 1))], one := [(1, ()), (2, ()), (3, ()), (4, ()), (5, ()), (6, ()), (9, ()), (10, ()), (11, ()), (12, ()), (15, ()), (16, ()), (17, ()), (21, ()), (22, ()), (23, ()), (26, ()), (27, ()), (28, ()), (29, ()), (30, ()), (32, ()), (33, ()), (37, ()), (38, ()), (39, ()), (40, ()), (42, ()), (43, ()), (46, ()), (47, ()), (48, ()), (50, ()), (51, ()), (52, ()), (53, ()), (54, ()), (56, ()), (57, ()), (58, ()), (59, ()), (60, ()), (63, ()), (68, ()), (69, ()), (72, ()), (73, ()), (74, ()), (77, ()), (78, ()), (79, ()), (82, ()), (83, ()), (84, ()), (85, ()), (86, ()), (91, ()), (92, ()), (95, ()), (98, ()), (99, ()), (104, ()), (105, ()), (111, ()), (114, ()), (115, ()), (116, ()), (117, ()), (118, ()), (119, ()), (120, ()), (121, ()), (122, ()), (123, ()), (124, ()), (125, ()), (126, ()), (127, ()), (129, ()), (130, ()), (131, ()), (134, ()), (135, ()), (136, ()), (137, ()), (140, ()), (143, ()), (144, ()), (145, ()), (150, ()), (153, ()), (154, ()), (155, ()), (156, ()), (157, ()), (158, ()), (159, ()), (160, ()), (161, ()), (162, ()), (163, ()), (164, ()), (165, ()), (166, ()), (168, ()), (169, ()), (170, ()), (171, ()), (172, ()), (173, ()), (174, ()), (179, ()), (180, ()), (181, ()), (182, ()), (185, ()), (186, ()), (188, ()), (189, ()), (190, ()), (191, ()), (192, ()), (193, ()), (194, ()), (196, ()), (197, ()), (198, ()), (199, ()), (200, ()), (201, ()), (202, ()), (205, ()), (207, ()), (210, ()), (211, ()), (212, ()), (213, ()), (214, ()), (215, ()), (216, ()), (217, ()), (223, ()), (224, ()), (225, ()), (226, ()), (227, ()), (228, ()), (229, ())], ag := [(24, 2), (25, 2), (34, 3), (35, 3), (44, 4), (45, 4), (61, 2), (62, 2), (64, 6), (65, 6), (66, 2), (67, 2), (70, 4), (71, 4), (75, 6), (76, 6), (80, 16), (81, 16), (87, 2), (88, 2), (89, 7), (90, 7), (93, 4), (94, 4), (96, 12), (97, 12), (100, 1), (101, 1), (102, 3), (103, 3), (106, 4), (107, 4), (108, 8), (109, 8), (110, 272), (112, 273), (113, 273), (128, 4), (132, 6), (133, 6), (138, 5), (139, 5), (141, 1), (142, 1), (146, 112), (147, 14), (148, 127), (149, 127), (151, 1), (152, 1), (175, 2), (176, 14), (177, 17), (178, 17), (183, 9), (184, 9), (203, 9), (204, 9), (206, 34), (208, 53), (209, 53), (220, 0), (230, 11)] }
theorem hT : tbl.check Tryz.prog = true := by decide +kernel
theorem hMix : Tryz.prog.follows .mixedOrders = true := by decide +kernel
end E
end Go.Proofs.YtmplkogkphmmjafGreat

/- Rows of instructions: as they are made, and as they lie there; append to them. -/
namespace Go.Proofs.YtmplkogkphmmjafGreat
set_option maxRecDepth 20000
set_option maxHeartbeats 4000000
namespace E
open Go.Proofs

abbrev tRI : Nat := 128
def iC (x : Is) : List Value := [.int .i64 x.1, .int .i64 x.2.1, .int .i64 x.2.2.1, .int .i64 x.2.2.2]
theorem size_in : sizeOk Tryz.prog 3 1 = true := by kernel_rfl
theorem iC_one (x : Is) : ∀ u ∈ iC x, u.oneCell' = true := by
  intro u hu
  simp only [iC, List.mem_cons, List.not_mem_nil, or_false] at hu
  rcases hu with rfl | rfl | rfl | rfl <;> rfl
theorem one_in (a : Int) : ∀ u ∈ [Value.int .i64 a], u.oneCell' = true := by
  intro u hu
  simp only [List.mem_cons, List.not_mem_nil, or_false] at hu
  subst hu
  rfl
theorem iC_length (x : Is) : (iC x).length = 4 := rfl
def isC (l : List Is) : List Value := l.flatMap iC
theorem isC_length (l : List Is) : (isC l).length = l.length * 4 := flat_length fun p _ => iC_length p
theorem isC_one (l : List Is) : ∀ u ∈ isC l, u.oneCell' = true := by
  intro u hu
  simp only [isC, List.mem_flatMap, iC] at hu
  obtain ⟨x, _, hu⟩ := hu
  simp only [List.mem_cons, List.not_mem_nil, or_false] at hu
  rcases hu with rfl | rfl | rfl | rfl <;> rfl
theorem isC_app (a b : List Is) : isC (a ++ b) = isC a ++ isC b := by simp [isC]

/-- A list of instructions that lies there. -/
def InsV (F : Nat → Prop) (w : World) (v : Value) (l : List Is) : Prop := ∃ a cap, v = .slice a l.length cap ∧ (0 < l.length → ∃ b q, a = some ⟨b, q, none⟩ ∧ F b ∧ w.rangeAt b q (isC l))
section
variable {F F' : Nat → Prop} {w w' : World} {v : Value} {l : List Is}
theorem InsV.form (h : InsV F w v l) : ∃ a cap, v = .slice a l.length cap := let ⟨a, cap, h, _⟩ := h; ⟨a, cap, h⟩
theorem InsV.keep {fp : List Nat} (h : InsV F w v l) (hk : Keep fp w w') (hF : ∀ c, F c → c < w.heap.size ∧ c ∉ fp) : InsV F w' v l := by
  obtain ⟨a, cap, h1, h2⟩ := h
  refine ⟨a, cap, h1, fun h0 => ?_⟩
  obtain ⟨b, q, h3, h4, h5⟩ := h2 h0
  exact ⟨b, q, h3, h4, range_keep h5 hk (hF b h4).1 (hF b h4).2⟩
theorem InsV.mono (h : InsV F w v l) (hF : ∀ c, F c → F' c) : InsV F' w v l := by
  obtain ⟨a, cap, h1, h2⟩ := h
  refine ⟨a, cap, h1, fun h0 => ?_⟩
  obtain ⟨b, q, h3, h4, h5⟩ := h2 h0
  exact ⟨b, q, h3, hF b h4, h5⟩
theorem InsV.at (h : InsV F w v l) {i : Nat} {x : Is} (hx : l[i]? = some x) : ∃ b q cap, v = .slice (some ⟨b, q, none⟩) l.length cap ∧ F b ∧ w.rangeAt b (q + i * 4) (iC x) := by
  obtain ⟨a, cap, h1, h2⟩ := h
  have hi := (List.getElem?_eq_some_iff.1 hx).1
  obtain ⟨b, q, h3, h4, h5⟩ := h2 (by omega)
  refine ⟨b, q, cap, by rw [h1, h3], h4, fun j u hu => ?_⟩
  have hf : ((isC l).drop (i * 4)).take 4 = iC x := flat_at (fun p _ => iC_length p) hx
  have := h5 (i * 4 + j) u (by
    have hj : j < 4 := by have := (List.getElem?_eq_some_iff.1 hu).1; simpa [iC_length] using this
    rw [← hf, List.getElem?_take, if_pos hj, List.getElem?_drop] at hu
    exact hu)
  rw [← Nat.add_assoc] at this
  exact this
theorem InsV.nil : InsV F w (.slice none 0 0) [] := ⟨none, 0, rfl, fun h => absurd h (by simp)⟩
end

/-- A row of instructions that is being made, of blocks from B on. -/
def RowI (e : Nat) (w : World) (B : Nat) (v : Value) (l : List Is) : Prop := Own w B e 4 v l.length (isC l)
section
variable {e B : Nat} {w w' : World} {v : Value} {l : List Is}
theorem RowI.nil (e : Nat) (w : World) (B : Nat) : RowI e w B (.slice none 0 0) [] := Own.nil w B e 4
theorem RowI.form (h : RowI e w B v l) : ∃ a cap, v = .slice a l.length cap := Own.form h
theorem RowI.ins (h : RowI e w B v l) : InsV (fun c => B ≤ c ∧ c < w.heap.size) w v l := by
  rcases h.2 with ⟨h1, h2⟩ | ⟨g, cap, cur, h1, hB, hb, hc, hl, ht⟩
  · exact ⟨none, 0, by rw [h1, h2], fun h0 => by omega⟩
  · exact ⟨_, cap, h1, fun h0 => ⟨g, 0, rfl, ⟨hB, hb.lt⟩, hb.range (by rw [List.drop_zero, isC_length]; exact ht)⟩⟩
theorem RowI.keep {fp : List Nat} (h : RowI e w B v l) (hk : Keep fp w w') (hf : ∀ k ∈ fp, k < B) : RowI e w' B v l := Own.keep h hk fun k hv hm => by
  have := (Own.lt h k hv).1
  have := hf k hm
  omega
theorem RowI.keep0 (h : RowI e w B v l) (hk : Keep [] w w') : RowI e w' B v l := h.keep hk fun _ hm => by cases hm
theorem RowI.lower (h : RowI e w B v l) {B' : Nat} (hB : B' ≤ B) : RowI e w B' v l := by
  refine ⟨h.1, ?_⟩
  rcases h.2 with h0 | ⟨g, cap, cur, h1, hb, r⟩
  · exact .inl h0
  · exact .inr ⟨g, cap, cur, h1, by omega, r⟩
theorem RowI.own (h : RowI e w B v l) : ∀ k ∈ v.ownBlock.toList, B ≤ k ∧ k < w.heap.size := fun k hk => Own.lt h k (by simpa using hk)
end

section
variable {P : Program} {n : Nat} {σ : Env} {o : Oper} {w : World} {v : Value} {K : Value → World → Prop}
/-- append(s, x...), x with nothing in it. -/
theorem opTo_appZ {t : TypeId} {s x : Operand} {a : Option Addr} {c ln B e size bytes : Nat} {xs : List Value} (ho : o.op = .call { callee := .builtin .append, args := #[s, x], argTypes := #[t, t] }) (hs : ev σ s = some v) (hx : ev σ x = some (.slice a 0 c))
    (hP : appOk P t e size bytes = true) (hown : Own w B e size v ln xs) (hK : K v w) : OpTo P n σ o w K := by
  obtain ⟨i, z, hu, hi, hz, hsize, hby, hzs⟩ := appOk_run hP
  have hr : (Builtin.append_ #[t, t] o.type #[v, .slice a 0 c]).run P w = .ok v w := by
    rcases hown.2 with ⟨rfl, rfl⟩ | ⟨g, cap, cur, rfl, _, _, hnc, _⟩
    · cases a <;> simp [Builtin.append_, run_underlying hu, sizeOf, typeInfo, hi, Builtin.lenOf, Builtin.firstCells, loadCells, loadCellsFrom]
    · cases a <;> simp [Builtin.append_, run_underlying hu, sizeOf, typeInfo, hi, Builtin.lenOf, Builtin.firstCells, loadCells, loadCellsFrom, hnc, storeCells]
  refine opTo_run (w' := w) (v := v) (fun ac ha => ?_) hK
  simp [execOp, ho, resolve, invoke, builtin, ha.eval hs, ha.eval hx, hr]
/-- append(s, x...), of instructions. -/
theorem opTo_rowApp {t : TypeId} {s x : Operand} {e B : Nat} {F : Nat → Prop} {vx : Value} (l m : List Is) (ho : o.op = .call { callee := .builtin .append, args := #[s, x], argTypes := #[t, t] }) (hs : ev σ s = some v) (hx : ev σ x = some vx)
    (hP : appOk P t e 4 32 = true) (hrow : RowI e w B v l) (hm : InsV F w vx m) (hb : l.length + m.length ≤ 1000000) (hB : B ≤ w.heap.size)
    (hK : ∀ v' w', RowI e w' B v' (l ++ m) → Keep v.ownBlock.toList w w' → K v' w') : OpTo P n σ o w K := by
  obtain ⟨a, cap, rfl, h2⟩ := hm
  by_cases h0 : 0 < m.length
  · obtain ⟨b, q, rfl, _, hr⟩ := h2 h0
    refine opTo_app B e 4 32 (isC l) (isC m) ho hs hx hP hrow hr (isC_length m) (isC_one m) h0 (by unfold maxLen; omega) (by omega) hB ?_
    intro g c w' hown hk
    rw [← isC_app, ← List.length_append] at hown
    refine hK _ _ (by rw [← List.length_append]; exact hown) ?_
    rcases hk with ⟨h3, _, h4⟩ | ⟨_, h4, _⟩
    · rw [h3]; exact h4
    · exact h4.of0
  · have hm0 : m = [] := List.eq_nil_of_length_eq_zero (by omega)
    subst hm0
    refine opTo_appZ ho hs hx hP hrow (hK _ _ ?_ (Keep.refl _ _))
    rw [List.append_nil]
    exact hrow
end
section
variable {P : Program} {n : Nat} {σ : Env} {o : Oper} {w : World}
def intSl (P : Program) (t e : Nat) : Bool :=
  match P.underlying t with
  | some (.slice e') => e' == e && (match P.info? e with
    | some i => i.size == 1 && i.bytes == 8 && (match i.zero with | some (.int .i64 z) => z == 0 | _ => false)
    | none => false)
  | _ => false
theorem made_ints (len : Nat) : madeCells #[Value.int .i64 0] (len * 1) = (List.replicate len (Value.int .i64 0)).toArray := by
  apply Array.ext
  · simp [size_madeCells]
  · intro i h1 h2
    simp [madeCells, Nat.mod_one]
theorem opTo_makeI {t : TypeId} {l c : Operand} {k1 k2 : IntKind} {K : Value → World → Prop} (e len : Nat) (ho : o.op = .makeSlice t l c) (hl : ev σ l = some (.int k1 (len : Nat))) (hc : ev σ c = some (.int k2 (len : Nat)))
    (hP : intSl P t e = true) (hlen : len ≤ 1000000) (hK : ∀ w1 b, b = w.heap.size → w1.heap.size = b + 1 → Keep [] w w1 → Blk w1 b (List.replicate len (.int .i64 0)) e → K (.slice (some ⟨b, 0, none⟩) len len) w1) : OpTo P n σ o w K := by
  unfold intSl at hP
  split at hP
  · rename_i e' hu
    simp only [Bool.and_eq_true, beq_iff_eq] at hP
    obtain ⟨rfl, hP⟩ := hP
    split at hP
    · rename_i i hi
      simp only [Bool.and_eq_true, beq_iff_eq] at hP
      obtain ⟨⟨h1, h2⟩, h3⟩ := hP
      split at h3
      · rename_i z hz
        have : z = 0 := by simpa using h3
        subst this
        exact opTo_make len (List.replicate len (.int .i64 0)) i _ ho hl hc hu hi hz (by rw [h2]; omega) (by omega) (by rw [h1]; exact made_ints len) (hK _ _ rfl (World.size_alloc _ _) ((Keep.refl _ _).alloc _) (Blk.new _ _ _))
      · cases h3
    · cases hP
  · cases hP
end
end E
end Go.Proofs.YtmplkogkphmmjafGreat

/- The document's Being, as it lies in memory; contracts of push, pop, bit. -/
namespace Go.Proofs.YtmplkogkphmmjafGreat
set_option maxRecDepth 20000
set_option maxHeartbeats 4000000
namespace E
open Go.Proofs

abbrev tBe : Nat := 81
abbrev tMd : Nat := 76
abbrev tLg : Nat := 2
def lgs (l : List Int) : List Value := l.map fun k => Value.int .i64 k
theorem lgs_length (l : List Int) : (lgs l).length = l.length := by simp [lgs]
theorem lgs_one (l : List Int) : ∀ u ∈ lgs l, u.oneCell' = true := by
  intro u hu
  simp only [lgs, List.mem_map] at hu
  obtain ⟨x, _, rfl⟩ := hu
  rfl
theorem lgs_app (a b : List Int) : lgs (a ++ b) = lgs a ++ lgs b := by simp [lgs]
theorem lgs_at {l : List Int} {i : Nat} {x : Int} (h : l[i]? = some x) : (lgs l)[i]? = some (.int .i64 x) := by simp [lgs, h]

/-- A row of numbers that is owned. -/
abbrev RowL (w : World) (B : Nat) (v : Value) (l : List Int) : Prop := Own w B tLg 1 v l.length (lgs l)
def obs (v : Value) : List Nat := v.ownBlock.toList
theorem mem_obs {v : Value} {k : Nat} : k ∈ obs v ↔ v.ownBlock = some k := by simp [obs]
/-- They lie in two blocks. -/
def Apt (u v : Value) : Prop := ∀ k ∈ obs u, k ∉ obs v
section
variable {w w' : World} {B : Nat} {v : Value} {l : List Int}
theorem RowL.nil (w : World) (B : Nat) : RowL w B (.slice none 0 0) [] := Own.nil w B tLg 1
theorem RowL.keep {fp : List Nat} (h : RowL w B v l) (hk : Keep fp w w') (hn : ∀ k ∈ obs v, k ∉ fp) : RowL w' B v l := Own.keep h hk fun k hv => hn k (mem_obs.2 hv)
theorem RowL.lt (h : RowL w B v l) : ∀ k ∈ obs v, B ≤ k ∧ k < w.heap.size := fun k hk => Own.lt h k (mem_obs.1 hk)
theorem RowL.blk (h : RowL w B v l) : ∀ k ∈ obs v, ∃ L, Blk w k L tLg := fun k hk => by
  have hk := mem_obs.1 hk
  rcases h.2 with ⟨rfl, _⟩ | ⟨g, cap, cur, rfl, _, hg, _⟩
  · simp [Value.ownBlock] at hk
  · simp only [Value.ownBlock, Option.some.injEq] at hk
    subst hk
    exact ⟨cur, hg⟩
theorem RowL.ne (h : RowL w B v l) {b : Nat} {L : List Value} {e : TypeId} (hb : Blk w b L e) (he : e ≠ tLg) : ∀ k ∈ obs v, k ∉ [b] := fun k hk hm => by
  obtain ⟨L', hL'⟩ := h.blk k hk
  rw [List.mem_singleton.1 hm] at hL'
  exact Blk.ne hb hL' he rfl
theorem RowL.form (h : RowL w B v l) : ∃ a cap, v = .slice a l.length cap := Own.form h
theorem RowL.cap {a : Option Addr} {n cap : Nat} (h : RowL w B (.slice a n cap) l) : l.length ≤ cap := by
  rcases h.2 with ⟨hv, h0⟩ | ⟨g, c, cur, hv, _, _, hc, _⟩
  · omega
  · cases hv; exact hc
/-- One of them. -/
theorem RowL.at (h : RowL w B v l) {i : Nat} {x : Int} (hx : l[i]? = some x) : ∃ g cap, v = .slice (some ⟨g, 0, none⟩) l.length cap ∧ w.cell? ⟨g, i, none⟩ = some (.int .i64 x) := by
  have hi := (List.getElem?_eq_some_iff.1 hx).1
  rcases h.2 with ⟨_, h0⟩ | ⟨g, cap, cur, hv, _, hg, _, _, ht⟩
  · omega
  · refine ⟨g, cap, hv, hg.cell ?_⟩
    have := lgs_at hx
    rw [← ht, Nat.mul_one, List.getElem?_take] at this
    rw [if_pos hi] at this
    exact this
/-- Its beginning. -/
theorem RowL.first (h : RowL w B v l) {a : Option Addr} {cap : Nat} (hv : v = .slice a l.length cap) {m : Nat} (hm : m ≤ l.length) : RowL w B (.slice a m cap) (l.take m) ∧ obs (.slice a m cap) = obs v := by
  have hl : (l.take m).length = m := by rw [List.length_take]; omega
  have hlg : lgs (l.take m) = (lgs l).take m := by simp [lgs]
  subst hv
  refine ⟨⟨by rw [lgs_length, hl]; omega, ?_⟩, ?_⟩
  · rw [hl]
    rcases h.2 with ⟨hv, h0⟩ | ⟨g, c, cur, hv, hb, hg, hc, hl', ht⟩
    · injection hv with g1 g2 g3
      subst g1
      subst g3
      exact .inl ⟨by rw [show m = 0 by omega], by omega⟩
    · cases hv
      refine .inr ⟨g, cap, cur, rfl, hb, hg, by omega, hl', ?_⟩
      rw [hlg, ← ht, List.take_take, Nat.mul_one, Nat.mul_one, Nat.min_eq_left hm]
  · cases a <;> rfl
/-- Another number at a place. -/
theorem RowL.set (h : RowL w B v l) {i : Nat} (hi : i < l.length) {g cap : Nat} (hv : v = .slice (some ⟨g, 0, none⟩) l.length cap) : ∃ cur, Blk w g cur tLg ∧ i < cur.length ∧ ∀ {w' : World} {n : Int}, Blk w' g (splice cur i [.int .i64 n]) tLg → RowL w' B v (l.set i n) := by
  subst hv
  rcases h.2 with ⟨hv, h0⟩ | ⟨g', c, cur, hv, hb, hg, hc, hl', ht⟩
  · injection hv with g1
    cases g1
  · cases hv
    have hic : i < cur.length := by omega
    refine ⟨cur, hg, hic, fun {w' n} hb' => ⟨by rw [lgs_length]; simp, .inr ⟨g, cap, _, by simp, hb, hb', by simpa using hc, by rw [splice_length (by simp; omega)]; exact hl', ?_⟩⟩⟩
    have e1 : splice cur i [.int .i64 n] = cur.set i (.int .i64 n) := by
      unfold splice
      rw [List.set_eq_take_append_cons_drop, if_pos hic]
      simp
    rw [e1, List.length_set, Nat.mul_one, List.take_set, ← Nat.mul_one l.length, ht]
    simp [lgs, List.map_set]
end
end E
end Go.Proofs.YtmplkogkphmmjafGreat

/- The document's Being, as it lies in memory; contracts of push, pop, bit. -/
namespace Go.Proofs.YtmplkogkphmmjafGreat
set_option maxRecDepth 20000
set_option maxHeartbeats 4000000
namespace E
open Go.Proofs

/-- The input, as it lies in the first world. -/
def InpV (w0 : World) (v : Value) (l : List Int) : Prop := ∃ a cap, v = .slice a l.length cap ∧ (0 < l.length → ∃ b q, a = some ⟨b, q, none⟩ ∧ b < w0.heap.size ∧ w0.rangeAt b q (lgs l))
theorem Apt.symm {u v : Value} (h : Apt u v) : Apt v u := fun k hk hu => h k hu hk
theorem RowI.blk {w : World} {B e : Nat} {v : Value} {l : List Is} (h : RowI e w B v l) : ∀ k ∈ obs v, ∃ L, Blk w k L e := fun k hk => by
  have hk := mem_obs.1 hk
  rcases h.2 with ⟨rfl, _⟩ | ⟨g, cap, cur, rfl, _, hg, _⟩
  · simp [Value.ownBlock] at hk
  · simp only [Value.ownBlock, Option.some.injEq] at hk
    subst hk
    exact ⟨cur, hg⟩
theorem RowI.keepF {w w' : World} {B e : Nat} {v : Value} {l : List Is} {fp : List Nat} (h : RowI e w B v l) (hk : Keep fp w w') (hn : ∀ k ∈ obs v, k ∉ fp) : RowI e w' B v l := Own.keep h hk fun k hv => hn k (mem_obs.2 hv)
theorem size_ls : sizeOk Tryz.prog 26 1 = true := by kernel_rfl
theorem slice_lg (n : Int) : sliceCells Tryz.prog 26 1 [(0, .int .i64 n)] = some (tLg, [Value.int .i64 n].toArray) := by kernel_rfl
theorem app_lg : appOk Tryz.prog 26 tLg 1 8 = true := by decide +kernel
theorem one_v {v : Value} (h : v.oneCell' = true) : ∀ u ∈ [v], u.oneCell' = true := by
  intro u hu
  simp only [List.mem_cons, List.not_mem_nil, or_false] at hu
  subst hu
  exact h
/-- Its rows: stack and cells; those that were kept; what was printed. -/
structure Rws where
  s : Value
  c : Value
  ks : Value
  kc : Value
  o : Value
def mC (m : Md) (s c : Value) : List Value := [.int .i64 (m.next : Nat), s, .int .i64 (m.read : Nat), .int .i64 (m.out : Nat), .int .i64 (m.state : Nat), c]
def beC (cv iv : Value) (m k : Md) (p : Pr) (r : Rws) : List Value := [cv, iv] ++ mC m r.s r.c ++ mC k r.ks r.kc ++ [r.o, .bool p.2]
def fpB (b : Nat) (cv : Value) (r : Rws) : List Nat := b :: (obs cv ++ (obs r.s ++ (obs r.c ++ (obs r.ks ++ (obs r.kc ++ obs r.o)))))
structure Aps (r : Rws) : Prop where
  sc : Apt r.s r.c
  sks : Apt r.s r.ks
  skc : Apt r.s r.kc
  so : Apt r.s r.o
  cks : Apt r.c r.ks
  ckc : Apt r.c r.kc
  co : Apt r.c r.o
  kskc : Apt r.ks r.kc
  kso : Apt r.ks r.o
  kco : Apt r.kc r.o
/-- A Being at b: its instructions, its input; its mind, what of it was kept, what was printed. -/
structure Bw (w0 w : World) (b : Nat) (W : List Is) (inp : List Int) (cv iv : Value) (r : Rws) (m k : Md) (p : Pr) : Prop where
  kp : Keep [] w0 w
  ge : w0.heap.size ≤ b
  bk : Blk w b (beC cv iv m k p r) tBe
  cd : RowI tRI w w0.heap.size cv W
  inp : InpV w0 iv inp
  rs : RowL w w0.heap.size r.s m.stack
  rc : RowL w w0.heap.size r.c m.cells
  rks : RowL w w0.heap.size r.ks k.stack
  rkc : RowL w w0.heap.size r.kc k.cells
  ro : RowL w w0.heap.size r.o p.1
  ap : Aps r
/-- It came to this, and touched nothing but its own. -/
def BwT (w0 w w' : World) (b : Nat) (W : List Is) (inp : List Int) (cv iv : Value) (r r' : Rws) (m k : Md) (p : Pr) : Prop :=
  Bw w0 w' b W inp cv iv r' m k p ∧ Keep (fpB b cv r) w w' ∧ ∀ x ∈ fpB b cv r', x ∈ fpB b cv r ∨ w.heap.size ≤ x
def BwTo (w0 w w' : World) (b : Nat) (W : List Is) (inp : List Int) (cv iv : Value) (r : Rws) (m k : Md) (p : Pr) : Prop := ∃ r', BwT w0 w w' b W inp cv iv r r' m k p

theorem neBL : tBe ≠ tLg := by decide
theorem neBR : tBe ≠ tRI := by decide
theorem neRL : tRI ≠ tLg := by decide
section
variable {w0 w w1 w2 : World} {b : Nat} {W : List Is} {inp : List Int} {cv iv : Value} {r : Rws} {m k m' k' : Md} {p p' : Pr}
/-- What is its own lies from the first world's end on. -/
theorem Bw.own (h : Bw w0 w b W inp cv iv r m k p) : ∀ x ∈ fpB b cv r, w0.heap.size ≤ x ∧ x < w.heap.size := fun x hx => by
  simp only [fpB, List.mem_cons, List.mem_append] at hx
  rcases hx with rfl | hx | hx | hx | hx | hx | hx
  · exact ⟨h.ge, h.bk.lt⟩
  · exact Own.lt h.cd x (mem_obs.1 hx)
  · exact h.rs.lt x hx
  · exact h.rc.lt x hx
  · exact h.rks.lt x hx
  · exact h.rkc.lt x hx
  · exact h.ro.lt x hx
/-- What others do leaves it as it is. -/
theorem Bw.keep {fp : List Nat} (h : Bw w0 w b W inp cv iv r m k p) (hk : Keep fp w w1) (hn : ∀ x ∈ fpB b cv r, x ∉ fp) (hge : ∀ x ∈ fp, w0.heap.size ≤ x) : Bw w0 w1 b W inp cv iv r m k p where
  kp := h.kp.trans hk fun x hx => .inr (hge x hx)
  ge := h.ge
  bk := hk.blk h.bk (hn b (by simp [fpB]))
  cd := h.cd.keepF hk fun x hx => hn x (by simp [fpB, hx])
  inp := h.inp
  rs := h.rs.keep hk fun x hx => hn x (by simp [fpB, hx])
  rc := h.rc.keep hk fun x hx => hn x (by simp [fpB, hx])
  rks := h.rks.keep hk fun x hx => hn x (by simp [fpB, hx])
  rkc := h.rkc.keep hk fun x hx => hn x (by simp [fpB, hx])
  ro := h.ro.keep hk fun x hx => hn x (by simp [fpB, hx])
  ap := h.ap
theorem Bw.keep0 (h : Bw w0 w b W inp cv iv r m k p) (hk : Keep [] w w1) : Bw w0 w1 b W inp cv iv r m k p := h.keep hk (fun _ _ => by simp) fun _ hx => by cases hx
theorem BwT.refl (h : Bw w0 w b W inp cv iv r m k p) : BwT w0 w w b W inp cv iv r r m k p := ⟨h, Keep.refl _ _, fun _ hx => .inl hx⟩
theorem BwT.keep0 {r' : Rws} (h : BwT w0 w w1 b W inp cv iv r r' m k p) (hk : Keep [] w1 w2) : BwT w0 w w2 b W inp cv iv r r' m k p :=
  ⟨h.1.keep0 hk, h.2.1.tr0 hk, h.2.2⟩
/-- One behind the other. -/
theorem BwT.seq {r1 r2 : Rws} (h1 : BwT w0 w w1 b W inp cv iv r r1 m k p) (h : BwT w0 w1 w2 b W inp cv iv r1 r2 m' k' p') : BwT w0 w w2 b W inp cv iv r r2 m' k' p' := by
  obtain ⟨_, h2, h3⟩ := h1
  obtain ⟨g1, g2, g3⟩ := h
  refine ⟨g1, h2.trans g2 h3, fun x hx => ?_⟩
  rcases g3 x hx with h4 | h4
  · exact h3 x h4
  · exact .inr (Nat.le_trans h2.size h4)
/-- Behind what made new blocks alone. -/
theorem BwT.late {r1 : Rws} (hk : Keep [] w w1) (h : BwT w0 w1 w2 b W inp cv iv r r1 m' k' p') : BwT w0 w w2 b W inp cv iv r r1 m' k' p' := by
  obtain ⟨g1, g2, g3⟩ := h
  refine ⟨g1, hk.of0.tr g2, fun x hx => ?_⟩
  rcases g3 x hx with h4 | h4
  · exact .inl h4
  · exact .inr (Nat.le_trans hk.size h4)
/-- Its own block alone has turned. -/
theorem Bw.put (h : Bw w0 w b W inp cv iv r m k p) (hk : Keep [b] w w1) (hb : Blk w1 b (beC cv iv m' k p' r) tBe) (e1 : m'.stack = m.stack) (e2 : m'.cells = m.cells) (e3 : p'.1 = p.1) : BwT w0 w w1 b W inp cv iv r r m' k p' := by
  refine ⟨⟨h.kp.trB hk h.ge, h.ge, hb, ?_, h.inp, ?_, ?_, ?_, ?_, ?_, h.ap⟩, hk.mono fun x hx => .inl (by rw [List.mem_singleton.1 hx]; simp [fpB]), fun x hx => .inl hx⟩
  · refine h.cd.keepF hk fun x hx hm => ?_
    obtain ⟨L', hL'⟩ := h.cd.blk x hx
    rw [List.mem_singleton.1 hm] at hL'
    exact Blk.ne h.bk hL' neBR rfl
  · rw [e1]; exact h.rs.keep hk (h.rs.ne h.bk neBL)
  · rw [e2]; exact h.rc.keep hk (h.rc.ne h.bk neBL)
  · exact h.rks.keep hk (h.rks.ne h.bk neBL)
  · exact h.rkc.keep hk (h.rkc.ne h.bk neBL)
  · rw [e3]; exact h.ro.keep hk (h.ro.ne h.bk neBL)
/-- Its stack has turned, then its own block. -/
theorem Bw.putS (h : Bw w0 w b W inp cv iv r m k p) {s' : Value} (hk1 : Keep (obs r.s) w w1) (hrow : RowL w1 w0.heap.size s' m'.stack) (hob : ∀ x ∈ obs s', x ∈ obs r.s ∨ w.heap.size ≤ x) (hk : Keep [b] w1 w2) (hb : Blk w2 b (beC cv iv m' k p { r with s := s' }) tBe) (e2 : m'.cells = m.cells) : BwT w0 w w2 b W inp cv iv r { r with s := s' } m' k p := by
  have hne : ∀ {v : Value} {l : List Int}, RowL w w0.heap.size v l → Apt r.s v → RowL w2 w0.heap.size v l ∧ Apt s' v := fun {v l} hv ha => by
    have h1 := hv.keep hk1 fun x hx hm => ha x hm hx
    have hbk1 := hk1.blk h.bk fun hm => h.rs.ne h.bk neBL b hm (by simp)
    refine ⟨h1.keep hk (h1.ne hbk1 neBL), fun x hx hm => ?_⟩
    rcases hob x hx with h2 | h2
    · exact ha x h2 hm
    · have := (hv.lt x hm).2; omega
  have hbk1 := hk1.blk h.bk fun hm => h.rs.ne h.bk neBL b hm (by simp)
  have hcd1 := h.cd.keepF hk1 fun x hx hm => by
    obtain ⟨L1, hL1⟩ := h.cd.blk x hx
    obtain ⟨L2, hL2⟩ := h.rs.blk x hm
    exact Blk.ne hL1 hL2 neRL rfl
  have c1 := hne h.rc h.ap.sc
  have c2 := hne h.rks h.ap.sks
  have c3 := hne h.rkc h.ap.skc
  have c4 := hne h.ro h.ap.so
  refine ⟨⟨(h.kp.trans hk1 fun x hx => .inr (h.rs.lt x hx).1).trB hk h.ge, h.ge, hb, ?_, h.inp, hrow.keep hk (hrow.ne hbk1 neBL), by rw [e2]; exact c1.1, c2.1, c3.1, c4.1, ⟨c1.2, c2.2, c3.2, c4.2, h.ap.cks, h.ap.ckc, h.ap.co, h.ap.kskc, h.ap.kso, h.ap.kco⟩⟩, ?_, ?_⟩
  · refine hcd1.keepF hk fun x hx hm => ?_
    obtain ⟨L', hL'⟩ := hcd1.blk x hx
    rw [List.mem_singleton.1 hm] at hL'
    exact Blk.ne hbk1 hL' neBR rfl
  · exact (hk1.mono fun x hx => .inl (by simp [fpB, hx])).trans hk fun x hx => .inl (by rw [List.mem_singleton.1 hx]; simp [fpB])
  · intro x hx
    simp only [fpB, List.mem_cons, List.mem_append] at hx ⊢
    rcases hx with h1 | h1 | h1 | h1
    · exact .inl (.inl h1)
    · exact .inl (.inr (.inl h1))
    · rcases hob x h1 with h2 | h2
      · exact .inl (.inr (.inr (.inl h2)))
      · exact .inr h2
    · exact .inl (.inr (.inr (.inr h1)))
end

section
variable {w0 w : World} {b : Nat} {W : List Is} {inp : List Int} {cv iv : Value} {r : Rws} {m k : Md} {p : Pr}
theorem bPush_ret (h : Bw w0 w b W inp cv iv r m k p) (hl : m.stack.length ≤ 1000) (n : Int) :
    Ret Tryz.prog 64 [.pointer (some ⟨b, 0, none⟩), .int .i64 n] w fun v w' => v = .tuple #[] ∧ ∃ s', BwT w0 w w' b W inp cv iv r { r with s := s' } { m with stack := m.stack ++ [n] } k p := by
  refine ret_of 16 Tryz.func64 rfl rfl (by simp) ?_
  refine au ?_
  refine pl_val _ rfl rfl (val_load1 hT rfl rfl rfl (h.bk.cell rfl)) ?_
  refine au ?_
  refine pl_op rfl rfl (opTo_sliceN tLg [.int .i64 n] rfl rfl (slice_lg n) ?_)
  intro w1 g hg hs1 hk1 hb1
  have h1 := h.keep0 hk1
  refine pl_op rfl rfl (opTo_app w0.heap.size tLg 1 8 (lgs m.stack) [.int .i64 n] rfl rfl rfl app_lg h1.rs (hb1.range rfl) rfl (one_v rfl) (by decide) (by unfold maxLen; omega) (by omega) h1.kp.size ?_)
  intro g2 cap w2 hown2 hcase
  have hrow2 : RowL w2 w0.heap.size (.slice (some ⟨g2, 0, none⟩) (m.stack.length + 1) cap) (m.stack ++ [n]) := by
    have e1 : (m.stack ++ [n]).length = m.stack.length + 1 := by simp
    have e2 : lgs (m.stack ++ [n]) = lgs m.stack ++ [.int .i64 n] := by rw [lgs_app]; rfl
    unfold RowL
    rw [e1, e2]
    exact hown2
  have hk2 : Keep (obs r.s) w1 w2 := by
    rcases hcase with ⟨h3, _, h4⟩ | ⟨_, h4, _⟩
    · rw [obs, h3]; exact h4
    · exact h4.of0
  have hob : ∀ x ∈ obs (.slice (some ⟨g2, 0, none⟩) (m.stack.length + 1) cap), x ∈ obs r.s ∨ w1.heap.size ≤ x := fun x hx => by
    have hx : x = g2 := by simpa [obs, Value.ownBlock] using hx
    subst hx
    rcases hcase with ⟨h3, _, _⟩ | ⟨h3, _, _⟩
    · exact .inl (mem_obs.2 h3)
    · exact .inr (by omega)
  refine au ?_
  refine pl_op rfl rfl (opTo_storeN [.slice (some ⟨g2, 0, none⟩) (m.stack.length + 1) cap] rfl rfl rfl rfl size_ls (hk2.blk h1.bk fun hm => h1.rs.ne h1.bk neBL b hm (by simp)) (by simp [beC, mC]) (one_v rfl) ?_)
  intro w3 hs3 hk3 hb3
  refine au ?_
  refine rn_end Tryz.func64 (.inr (.inl ⟨rfl, rfl⟩)) ⟨rfl, ?_⟩
  have hto := h1.putS (m' := { m with stack := m.stack ++ [n] }) hk2 hrow2 hob hk3 hb3 rfl
  exact ⟨_, BwT.late hk1 hto⟩

theorem bPop_ret (h : Bw w0 w b W inp cv iv r m k p) (h0 : 0 < m.stack.length) (hl : m.stack.length ≤ 1000) (top : Int) (htp : topS m.stack = top) :
    Ret Tryz.prog 65 [.pointer (some ⟨b, 0, none⟩)] w fun v w' => v = .int .i64 top ∧ ∃ s', BwT w0 w w' b W inp cv iv r { r with s := s' } { m with stack := m.stack.dropLast } k p := by
  subst htp
  obtain ⟨j, hj⟩ : ∃ j, m.stack.length = j + 1 := ⟨m.stack.length - 1, by omega⟩
  have htop : m.stack[j]? = some (topS m.stack) := by
    unfold topS
    rw [List.getLastD_eq_getLast?, List.getLast?_eq_getElem?, hj, Nat.add_sub_cancel, List.getElem?_eq_getElem (by omega)]
    rfl
  obtain ⟨g, cap, hv, hcell⟩ := h.rs.at htop
  refine ret_of 32 Tryz.func65 rfl rfl (by simp) ?_
  have hbk : Blk w b (beC cv iv m k p { r with s := .slice (some ⟨g, 0, none⟩) m.stack.length cap }) tBe := by rw [← hv]; exact h.bk
  have hrow := h.rs.first hv (m := j) (by omega)
  have hcap : m.stack.length ≤ cap := by have := h.rs; rw [hv] at this; exact this.cap
  refine au ?_
  refine pl_val _ rfl rfl (val_load1 hT rfl rfl rfl (hbk.cell rfl)) ?_
  refine au ?_
  refine pl_num (((j : Nat) : Int)) rfl rfl rfl rfl rfl (by simp only [ariP]; omega) ?_
  refine au ?_
  refine pl_val _ rfl rfl (val_load1 hT rfl rfl rfl (hbk.cell rfl)) ?_
  refine au ?_
  refine pl_val _ rfl rfl (val_index j hT rfl rfl rfl rfl rfl (by omega) w) ?_
  refine pl_val _ rfl rfl (val_load1 hT rfl rfl rfl ((by rw [Nat.zero_add, Nat.mul_one]; exact hcell))) ?_
  refine au ?_
  refine pl_val _ rfl rfl (val_load1 hT rfl rfl rfl (hbk.cell rfl)) ?_
  refine au ?_
  refine pl_val (.slice (some ⟨g, 0, none⟩) j cap) rfl rfl (val_sliceTo j hT rfl rfl rfl rfl rfl (by omega) w) ?_
  refine au ?_
  refine pl_op rfl rfl (opTo_storeN [.slice (some ⟨g, 0, none⟩) j cap] rfl rfl rfl rfl size_ls hbk (by simp [beC, mC]) (one_v rfl) ?_)
  intro w3 hs3 hk3 hb3
  refine au ?_
  have hdl : m.stack.dropLast = m.stack.take j := by rw [List.dropLast_eq_take, hj, Nat.add_sub_cancel]
  refine rn_ret Tryz.func65 (.inl ⟨_, rfl, rfl⟩) ⟨rfl, ?_⟩
  exact ⟨_, h.putS (s' := .slice (some ⟨g, 0, none⟩) j cap) (m' := { m with stack := m.stack.dropLast }) (Keep.refl _ _) (by show RowL w w0.heap.size _ m.stack.dropLast; rw [hdl]; exact hrow.1) (fun x hx => .inl (by rw [← hrow.2]; exact hx)) hk3 hb3 rfl⟩

theorem bBit_ret (q : Bool) (w : World) : Ret Tryz.prog 66 [.bool q] w fun v w' => v = .int .i64 (bitI q) ∧ w' = w := by
  refine ret_of 4 Tryz.func66 rfl rfl (by simp) ?_
  cases q
  · refine au ?_
    exact rn_ret Tryz.func66 (.inl ⟨_, rfl, rfl⟩) ⟨rfl, rfl⟩
  · refine au ?_
    exact rn_ret Tryz.func66 (.inl ⟨_, rfl, rfl⟩) ⟨rfl, rfl⟩
end
end E
end Go.Proofs.YtmplkogkphmmjafGreat

/- The document's Being: what its steps make of it; contract of a mind's Copy. -/
namespace Go.Proofs.YtmplkogkphmmjafGreat
set_option maxRecDepth 20000
set_option maxHeartbeats 4000000
namespace E
open Go.Proofs

section
variable {w0 w w1 w2 : World} {b : Nat} {W : List Is} {inp : List Int} {cv iv : Value} {r : Rws} {m k m' : Md} {p p' : Pr}
/-- What was printed has turned, then its own block. -/
theorem Bw.putO (h : Bw w0 w b W inp cv iv r m k p) {o' : Value} (hk1 : Keep (obs r.o) w w1) (hrow : RowL w1 w0.heap.size o' p'.1) (hob : ∀ x ∈ obs o', x ∈ obs r.o ∨ w.heap.size ≤ x) (hk : Keep [b] w1 w2) (hb : Blk w2 b (beC cv iv m k p' { r with o := o' }) tBe) : BwT w0 w w2 b W inp cv iv r { r with o := o' } m k p' := by
  have hbk1 := hk1.blk h.bk fun hm => h.ro.ne h.bk neBL b hm (by simp)
  have hne : ∀ {v : Value} {l : List Int}, RowL w w0.heap.size v l → Apt v r.o → RowL w2 w0.heap.size v l ∧ Apt v o' := fun {v l} hv ha => by
    have h1 := hv.keep hk1 fun x hx hm => ha x hx hm
    refine ⟨h1.keep hk (h1.ne hbk1 neBL), fun x hx hm => ?_⟩
    rcases hob x hm with h2 | h2
    · exact ha x hx h2
    · have := (hv.lt x hx).2; omega
  have hcd1 := h.cd.keepF hk1 fun x hx hm => by
    obtain ⟨L1, hL1⟩ := h.cd.blk x hx
    obtain ⟨L2, hL2⟩ := h.ro.blk x hm
    exact Blk.ne hL1 hL2 neRL rfl
  have c1 := hne h.rs h.ap.so
  have c2 := hne h.rc h.ap.co
  have c3 := hne h.rks h.ap.kso
  have c4 := hne h.rkc h.ap.kco
  refine ⟨⟨(h.kp.trans hk1 fun x hx => .inr (h.ro.lt x hx).1).trB hk h.ge, h.ge, hb, ?_, h.inp, c1.1, c2.1, c3.1, c4.1, hrow.keep hk (hrow.ne hbk1 neBL), ⟨h.ap.sc, h.ap.sks, h.ap.skc, c1.2, h.ap.cks, h.ap.ckc, c2.2, h.ap.kskc, c3.2, c4.2⟩⟩, ?_, ?_⟩
  · refine hcd1.keepF hk fun x hx hm => ?_
    obtain ⟨L', hL'⟩ := hcd1.blk x hx
    rw [List.mem_singleton.1 hm] at hL'
    exact Blk.ne hbk1 hL' neBR rfl
  · exact (hk1.mono fun x hx => .inl (by simp [fpB, hx])).trans hk fun x hx => .inl (by rw [List.mem_singleton.1 hx]; simp [fpB])
  · intro x hx
    simp only [fpB, List.mem_cons, List.mem_append] at hx ⊢
    rcases hx with h1 | h1 | h1 | h1 | h1 | h1 | h1
    · exact .inl (.inl h1)
    · exact .inl (.inr (.inl h1))
    · exact .inl (.inr (.inr (.inl h1)))
    · exact .inl (.inr (.inr (.inr (.inl h1))))
    · exact .inl (.inr (.inr (.inr (.inr (.inl h1)))))
    · exact .inl (.inr (.inr (.inr (.inr (.inr (.inl h1))))))
    · rcases hob x h1 with h2 | h2
      · exact .inl (.inr (.inr (.inr (.inr (.inr (.inr h2))))))
      · exact .inr h2
/-- A number of its cells has turned. -/
theorem Bw.putC (h : Bw w0 w b W inp cv iv r m k p) (hk1 : Keep (obs r.c) w w1) {cs : List Int} (hrow : RowL w1 w0.heap.size r.c cs) : BwT w0 w w1 b W inp cv iv r r { m with cells := cs } k p := by
  have hbk1 := hk1.blk h.bk fun hm => h.rc.ne h.bk neBL b hm (by simp)
  refine ⟨⟨h.kp.trans hk1 fun x hx => .inr (h.rc.lt x hx).1, h.ge, hbk1, ?_, h.inp, h.rs.keep hk1 fun x hx hm => h.ap.sc x hx hm, hrow, h.rks.keep hk1 fun x hx hm => h.ap.cks x hm hx, h.rkc.keep hk1 fun x hx hm => h.ap.ckc x hm hx, h.ro.keep hk1 fun x hx hm => h.ap.co x hm hx, h.ap⟩, hk1.mono fun x hx => .inl (by simp [fpB, hx]), fun x hx => .inl hx⟩
  exact h.cd.keepF hk1 fun x hx hm => by
    obtain ⟨L1, hL1⟩ := h.cd.blk x hx
    obtain ⟨L2, hL2⟩ := h.rc.blk x hm
    exact Blk.ne hL1 hL2 neRL rfl
/-- Its mind was copied, and kept. -/
theorem Bw.putK (h : Bw w0 w b W inp cv iv r m k p) {s' c' : Value} (hk1 : Keep [] w w1) (hs : RowL w1 w.heap.size s' m.stack) (hc : RowL w1 w.heap.size c' m.cells) (hsc : Apt s' c') (hk : Keep [b] w1 w2) (hb : Blk w2 b (beC cv iv m m p { r with ks := s', kc := c' }) tBe) : BwT w0 w w2 b W inp cv iv r { r with ks := s', kc := c' } m m p := by
  have h1 := h.keep0 hk1
  have low : ∀ {v : Value} {l : List Int}, RowL w1 w.heap.size v l → RowL w2 w0.heap.size v l := fun {v l} hv => by
    have := hv.keep hk (hv.ne h1.bk neBL)
    refine ⟨this.1, ?_⟩
    rcases this.2 with h0 | ⟨g, cap, cur, e1, e2, e3⟩
    · exact .inl h0
    · exact .inr ⟨g, cap, cur, e1, Nat.le_trans h.kp.size e2, e3⟩
  have new : ∀ {u v : Value} {l l' : List Int}, RowL w w0.heap.size u l → RowL w1 w.heap.size v l' → Apt u v := fun {u v l l'} hu hv x hx hm => by
    have := (hu.lt x hx).2
    have := (hv.lt x hm).1
    omega
  refine ⟨⟨(h.kp.tr hk1).trB hk h.ge, h.ge, hb, ?_, h.inp, h1.rs.keep hk (h1.rs.ne h1.bk neBL), h1.rc.keep hk (h1.rc.ne h1.bk neBL), low hs, low hc, h1.ro.keep hk (h1.ro.ne h1.bk neBL), ⟨h.ap.sc, new h.rs hs, new h.rs hc, h.ap.so, new h.rc hs, new h.rc hc, h.ap.co, hsc, (new h.ro hs).symm, (new h.ro hc).symm⟩⟩, ?_, ?_⟩
  · refine h1.cd.keepF hk fun x hx hm => ?_
    obtain ⟨L', hL'⟩ := h1.cd.blk x hx
    rw [List.mem_singleton.1 hm] at hL'
    exact Blk.ne h1.bk hL' neBR rfl
  · exact hk1.of0.trans hk fun x hx => .inl (by rw [List.mem_singleton.1 hx]; simp [fpB])
  · intro x hx
    simp only [fpB, List.mem_cons, List.mem_append] at hx ⊢
    rcases hx with h1 | h1 | h1 | h1 | h1 | h1 | h1
    · exact .inl (.inl h1)
    · exact .inl (.inr (.inl h1))
    · exact .inl (.inr (.inr (.inl h1)))
    · exact .inl (.inr (.inr (.inr (.inl h1))))
    · exact .inr (hs.lt x h1).1
    · exact .inr (hc.lt x h1).1
    · exact .inl (.inr (.inr (.inr (.inr (.inr (.inr h1))))))
/-- What is not its own stays. -/
theorem BwT.blk {r' : Rws} (h : BwT w0 w w1 b W inp cv iv r r' m k p) {x : Nat} {L : List Value} {e : TypeId} (hx : x ∉ fpB b cv r) (hb : Blk w x L e) : Blk w1 x L e ∧ x ∉ fpB b cv r' :=
  ⟨h.2.1.blk hb hx, fun hm => by
    rcases h.2.2 x hm with h1 | h1
    · exact hx h1
    · have := hb.lt; omega⟩
end

/-- One of a row, in this world and later ones. -/
theorem RowL.at2 {w : World} {B : Nat} {v : Value} {l : List Int} (h : RowL w B v l) {i : Nat} {x : Int} (hx : l[i]? = some x) : ∃ g cap, v = .slice (some ⟨g, 0, none⟩) l.length cap ∧ g < w.heap.size ∧ w.rangeAt g i [.int .i64 x] := by
  obtain ⟨g, cap, hv, hc⟩ := h.at hx
  refine ⟨g, cap, hv, (h.lt g (by rw [hv]; simp [obs, Value.ownBlock])).2, fun j u hu => ?_⟩
  have hj : j = 0 := by have := (List.getElem?_eq_some_iff.1 hu).1; simp at this; omega
  subst hj
  have : u = .int .i64 x := by simpa using hu.symm
  subst this
  exact hc
theorem topS_at {l : List Int} {j : Nat} (h : l.length = j + 1) : l[j]? = some (topS l) := by
  unfold topS
  rw [List.getLastD_eq_getLast?, List.getLast?_eq_getElem?, h, Nat.add_sub_cancel, List.getElem?_eq_getElem (by omega)]
  rfl
theorem cellAt_nat {l : List Int} {a : Nat} (h : a < l.length) : l[a]? = some (cellAt l ((a : Nat) : Int)) := by
  unfold cellAt
  rw [Int.toNat_natCast, List.getD_eq_getElem?_getD, List.getElem?_eq_getElem h]
  rfl
/-- A list of numbers that lies there. -/
def LsV (w : World) (v : Value) (l : List Int) : Prop := ∃ a cap, v = .slice a l.length cap ∧ (0 < l.length → ∃ b q, a = some ⟨b, q, none⟩ ∧ b < w.heap.size ∧ w.rangeAt b q (lgs l))
theorem RowL.lies {w : World} {B : Nat} {v : Value} {l : List Int} (h : RowL w B v l) : LsV w v l := by
  rcases h.2 with ⟨h1, h2⟩ | ⟨g, cap, cur, h1, hB, hb, hc, hl, ht⟩
  · exact ⟨none, 0, by rw [h1, h2], fun h0 => by omega⟩
  · exact ⟨_, cap, h1, fun h0 => ⟨g, 0, rfl, hb.lt, hb.range (by rw [List.drop_zero, lgs_length, ← Nat.mul_one l.length]; exact ht)⟩⟩
theorem LsV.keep0 {w w' : World} {v : Value} {l : List Int} (h : LsV w v l) (hk : Keep [] w w') : LsV w' v l := by
  obtain ⟨a, cap, h1, h2⟩ := h
  refine ⟨a, cap, h1, fun h0 => ?_⟩
  obtain ⟨b, q, h3, h4, h5⟩ := h2 h0
  exact ⟨b, q, h3, Nat.lt_of_lt_of_le h4 hk.size, range_keep h5 hk h4 (by simp)⟩
section
variable {P : Program} {n : Nat} {σ : Env} {o : Oper} {w : World} {K : Value → World → Prop}
/-- append(nil, x...). -/
theorem opTo_copyL {t : TypeId} {s x : Operand} {vx : Value} {e : Nat} (B : Nat) (l : List Int) (ho : o.op = .call { callee := .builtin .append, args := #[s, x], argTypes := #[t, t] }) (hs : ev σ s = some (.slice none 0 0)) (hx : ev σ x = some vx)
    (hP : appOk P t e 1 8 = true) (he : e = tLg) (hm : LsV w vx l) (hb : l.length ≤ 1000000) (hB : B ≤ w.heap.size)
    (hK : ∀ v' w', RowL w' B v' l → (∀ k ∈ obs v', w.heap.size ≤ k) → Keep [] w w' → K v' w') : OpTo P n σ o w K := by
  subst he
  obtain ⟨a, cap, rfl, h2⟩ := hm
  by_cases h0 : 0 < l.length
  · obtain ⟨b, q, rfl, _, hr⟩ := h2 h0
    refine opTo_app B tLg 1 8 [] (lgs l) ho hs hx hP (Own.nil _ _ _ _) hr (by rw [lgs_length]; omega) (lgs_one l) h0 (by unfold maxLen; omega) (by omega) hB ?_
    intro g c w' hown hk
    rw [Nat.zero_add, List.nil_append] at hown
    rw [Nat.zero_add]
    rcases hk with ⟨h3, _, _⟩ | ⟨h3, h4, _⟩
    · cases h3
    · refine hK _ _ hown (fun k hk => ?_) h4
      have : k = g := by simpa [obs, Value.ownBlock] using hk
      omega
  · have hm0 : l = [] := List.eq_nil_of_length_eq_zero (by omega)
    subst hm0
    exact opTo_appZ ho hs hx hP (RowL.nil w B) (hK _ _ (RowL.nil w B) (fun k hk => by simp [obs, Value.ownBlock] at hk) (Keep.refl _ _))
end

theorem size_lg1 : sizeOk Tryz.prog 2 1 = true := by kernel_rfl
theorem slice_one1 {v : Value} {n : Nat} (h : ∃ a cap, v = .slice a n cap) : v.oneCell' = true ∧ v.cells = [v].toArray := by
  obtain ⟨a, cap, rfl⟩ := h
  exact ⟨rfl, rfl⟩

theorem zero_md : ((Tryz.prog.info? tMd).bind (·.zero)).map (·.cells) = some (mC ⟨0, [], 0, 0, 0, []⟩ (.slice none 0 0) (.slice none 0 0)).toArray := by kernel_rfl
theorem size_md : sizeOk Tryz.prog tMd 6 = true := by kernel_rfl
theorem mC_one {m : Md} {s c : Value} (hs : s.oneCell' = true) (hc : c.oneCell' = true) : ∀ u ∈ mC m s c, u.oneCell' = true := by
  intro u hu
  simp only [mC, List.mem_cons, List.not_mem_nil, or_false] at hu
  rcases hu with rfl | rfl | rfl | rfl | rfl | rfl
  · rfl
  · exact hs
  · rfl
  · rfl
  · rfl
  · exact hc
theorem mindCopy_ret {w : World} {m : Md} {s c : Value} (hs : LsV w s m.stack) (hc : LsV w c m.cells) (hl : m.stack.length ≤ 1000 ∧ m.cells.length ≤ 1000) :
    Ret Tryz.prog 33 [.agg (mC m s c).toArray] w fun v w' => ∃ s' c', v = .agg (mC m s' c').toArray ∧ RowL w' w.heap.size s' m.stack ∧ RowL w' w.heap.size c' m.cells ∧ Apt s' c' ∧ Keep [] w w' := by
  have hs' := hs
  have hc' := hc
  obtain ⟨sa, scap, rfl, _⟩ := hs'
  obtain ⟨ca, ccap, rfl, _⟩ := hc'
  refine ret_of 16 Tryz.func33 rfl rfl (by simp) ?_
  refine au ?_
  refine pl_op rfl rfl (opTo_boxN (mC m (.slice sa m.stack.length scap) (.slice ca m.cells.length ccap)) rfl rfl rfl ?_)
  intro w1 x1 hx1 hs1 hk1 hb1
  refine pl_op rfl rfl (opTo_allocN _ rfl zero_md ?_)
  intro w2 x2 hx2 hs2 hk2 hb2
  have hb12 := hk2.blk hb1 (by simp)
  have hk02 := hk1.tr hk2
  refine au ?_
  refine rn_draw (fun w' => Keep [] w2 w') [9, 11] hMix ?_
  have hS : Keep [] w2 w2.drew := (Keep.refl _ _).drew
  generalize w2.drew = w3 at *
  refine tk 0 ?_
  refine tk 1 ?_
  refine dr_val 2 (.slice sa m.stack.length scap) rfl (by decide +kernel) rfl rfl (fun w9 hS9 => val_load1 hT rfl rfl rfl ((hS9.blk hb12 (by simp)).cell rfl)) hS ?_
  refine tk 4 ?_
  refine tk 5 ?_
  refine dr_val 6 (.slice ca m.cells.length ccap) rfl (by decide +kernel) rfl rfl (fun w9 hS9 => val_load1 hT rfl rfl rfl ((hS9.blk hb12 (by simp)).cell rfl)) hS ?_
  refine dr_op 3 rfl (by decide +kernel) rfl rfl (opTo_copyL (e := tLg) w.heap.size m.stack rfl rfl rfl app_lg rfl (hs.keep0 (hk02.tr hS)) (by omega) (hk02.tr hS).size ?_)
  intro s' w4 hrs hns hk4
  refine ⟨fun _ => hS.tr hk4, ?_⟩
  have hS4 := hS.tr hk4
  obtain ⟨s1, s2⟩ := slice_one1 hrs.form
  refine tk 8 ?_
  refine dr_op 7 rfl (by decide +kernel) rfl rfl (opTo_copyL (e := tLg) w.heap.size m.cells rfl rfl rfl app_lg rfl (hc.keep0 (hk02.tr hS4)) (by omega) (hk02.tr hS4).size ?_)
  intro c' w5 hrc5 hnc hk5
  refine ⟨fun _ => hS4.tr hk5, ?_⟩
  have hrs5 := hrs.keep hk5 (fun _ _ => by simp)
  have hapt : Apt s' c' := fun x hx hm => by
    have := (hrs.lt x hx).2
    have := hnc x hm
    omega
  have hS5 := hS4.tr hk5
  obtain ⟨c1, c2⟩ := slice_one1 hrc5.form
  have hb15 := hS5.blk hb12 (by simp)
  refine dr_op 9 rfl (by decide +kernel) rfl rfl (opTo_storeN [s'] rfl rfl rfl s2 size_ls hb15 (by simp [mC]) (one_v s1) ?_)
  intro w6 hs6 hk6 hb6
  refine ⟨fun h => absurd (by simp) h, ?_⟩
  refine tk 10 ?_
  refine dr_op 11 rfl (by decide +kernel) rfl rfl (opTo_storeN [c'] rfl rfl rfl c2 size_ls hb6 (by simp [mC, splice]) (one_v c1) ?_)
  intro w7 hs7 hk7 hb7
  refine ⟨fun h => absurd (by simp) h, ?_⟩
  refine dr_done (by decide +kernel) ?_
  have hb7' : Blk w7 x1 (mC m s' c') tMd := hb7
  have hk57 : Keep [x1] w5 w7 := hk6.tr hk7
  have hk27 : Keep [x1] w2 w7 := hS5.of0.tr hk57
  have hlt : ∀ {v : Value} {l : List Int}, RowL w5 w.heap.size v l → RowL w7 w.heap.size v l := fun {v l} hv => hv.keep hk57 (hv.ne hb15 (by decide))
  refine au ?_
  refine pl_val (.agg (mC m s' c').toArray) rfl rfl (val_load (mC m s' c') hT rfl rfl rfl (hb7'.range (by rfl))) ?_
  refine pl_op rfl rfl (opTo_storeN (mC m s' c') rfl rfl rfl rfl size_md (hk27.blk hb2 (by simp; omega)) (by simp [mC]) (mC_one s1 c1) ?_)
  intro w8 hs8 hk8 hb8
  rw [splice_whole (by rfl)] at hb8
  refine au ?_
  refine rn_ret Tryz.func33 (.inr (.inr (.inl ⟨_, _, _, rfl, rfl, blk_loadVar hT hb8 rfl⟩))) ⟨s', c', rfl, ?_, ?_, hapt, ?_⟩
  · exact (hlt hrs5).keep hk8 ((hlt hrs5).ne (hk27.blk hb2 (by simp; omega)) (by decide))
  · exact (hlt hrc5).keep hk8 ((hlt hrc5).ne (hk27.blk hb2 (by simp; omega)) (by decide))
  · exact (hk02.trB hk27 (by omega)).trB hk8 (by omega)
end E
end Go.Proofs.YtmplkogkphmmjafGreat

/- What a tree must be for its instructions to be made; what a check tells of that. -/
namespace Go.Proofs.YtmplkogkphmmjafGreat
set_option maxRecDepth 20000
set_option maxHeartbeats 4000000
namespace E

mutual
def gdE (nv : Nat) : ET → Prop
  | .mk op v _ l => (op = 2 ∨ op = 3 → 0 ≤ v ∧ v.toNat < nv) ∧ gdEs nv l
def gdEs (nv : Nat) : List ET → Prop
  | [] => True
  | t :: r => gdE nv t ∧ gdEs nv r
end
mutual
def gdS (nv : Nat) : ST → Prop
  | .mk op v e f b o => 1 ≤ op ∧ op ≤ 7 ∧ (needV op = true → 0 ≤ v ∧ v.toNat < nv) ∧ (needE op = true → gdE nv e) ∧ (needF op = true → gdE nv f) ∧ gdSs nv b ∧ gdSs nv o
def gdSs (nv : Nat) : List ST → Prop
  | [] => True
  | t :: r => gdS nv t ∧ gdSs nv r
end
theorem gdEs_at {nv : Nat} : ∀ {l : List ET} {i : Nat} {t : ET}, gdEs nv l → l[i]? = some t → gdE nv t
  | [], _, _, _, h => by simp at h
  | x :: r, 0, t, h, e => by simp at e; subst e; exact h.1
  | x :: r, i + 1, t, h, e => by simp at e; exact gdEs_at h.2 e
theorem gdSs_at {nv : Nat} : ∀ {l : List ST} {i : Nat} {t : ST}, gdSs nv l → l[i]? = some t → gdS nv t
  | [], _, _, _, h => by simp at h
  | x :: r, 0, t, h, e => by simp at e; subst e; exact h.1
  | x :: r, i + 1, t, h, e => by simp at e; exact gdSs_at h.2 e
mutual
theorem chkE_gd {nv : Nat} : ∀ (t : ET) {d k k' : Nat}, chkE nv t d k = .ok k' → gdE nv t
  | .mk op v n l, d, k, k', h => by
    obtain ⟨_, h1, k1, h2⟩ := chkE_inv h
    obtain ⟨_, _, _, _, c, _⟩ := ownE_inv h1
    exact ⟨c, chkEs_gd l h2⟩
theorem chkEs_gd {nv : Nat} : ∀ (l : List ET) {d k k' : Nat}, chkEs nv l d k = .ok k' → gdEs nv l
  | [], _, _, _, _ => trivial
  | t :: r, d, k, k', h => by
    obtain ⟨⟨k1, h1⟩, k2, h2⟩ := chkEs_inv h
    exact ⟨chkE_gd t h1, chkEs_gd r h2⟩
end
mutual
theorem chkS_gd {nv : Nat} : ∀ (t : ST) {d k k' : Nat}, chkS nv t d k = .ok k' → gdS nv t
  | .mk op v e f b o, d, k, k', h => by
    obtain ⟨_, h1, h2, h3, ⟨k1, k2, h4⟩, k3, k4, h5⟩ := chkS_inv h
    obtain ⟨a, a', _, _, _, _, c, _⟩ := ownS_inv h1
    exact ⟨a, a', c, fun hn => (let ⟨_, _, hc⟩ := h2 hn; chkE_gd e hc), fun hn => (let ⟨_, _, hc⟩ := h3 hn; chkE_gd f hc), chkSs_gd b h4, chkSs_gd o h5⟩
theorem chkSs_gd {nv : Nat} : ∀ (l : List ST) {d k k' : Nat}, chkSs nv l d k = .ok k' → gdSs nv l
  | [], _, _, _, _ => trivial
  | t :: r, d, k, k', h => by
    obtain ⟨⟨k1, h1⟩, k2, h2⟩ := chkSs_inv h
    exact ⟨chkS_gd t h1, chkSs_gd r h2⟩
end
theorem insS_pos (vs : List VarT) : ∀ (t : ST) (i0 : Nat), 0 < (insS vs t i0).length
  | .mk op v e f b o, i0 => by
    simp only [insS]
    split
    · simp only [whileI, List.length_append, List.length_cons]; omega
    · split
      · simp only [ifI, List.length_append, List.length_cons]; omega
      · simp only [List.length_append, List.length_cons]; omega
theorem insE_pos (vs : List VarT) : ∀ (t : ET), 0 < (insE vs t).length
  | .mk op v n l => by simp [insE]
end E
end Go.Proofs.YtmplkogkphmmjafGreat

/- One statement, one expression of a row, field by field. -/
namespace Go.Proofs.YtmplkogkphmmjafGreat
set_option maxRecDepth 20000
set_option maxHeartbeats 4000000
namespace E

theorem range_subT {w : World} {b p : Nat} {cs ds : List Value} (h : w.rangeAt b p cs) (k : Nat) (hd : (cs.drop k).take ds.length = ds) : w.rangeAt b (p + k) ds := fun j u hu => by
  rw [← hd, List.getElem?_take] at hu
  split at hu
  · rw [List.getElem?_drop] at hu
    have := h (k + j) u hu
    rwa [← Nat.add_assoc] at this
  · cases hu

def scells (op v : Int) (ce cf : List Value) (bv ov : Value) : List Value := [.int .i64 op, .int .i64 v] ++ ce ++ cf ++ [bv, ov]

/-- The statement at p of block b, field by field. -/
structure StmtAt (F : Nat → Prop) (w : World) (b p : Nat) (op v : Int) (e f : ET) (lb lo : List ST) (ce cf : List Value) (bv ov : Value) : Prop where
  whole : w.rangeAt b p (scells op v ce cf bv ov)
  cop : w.cell? ⟨b, p + 0, none⟩ = some (.int .i64 op)
  cv : w.cell? ⟨b, p + 1, none⟩ = some (.int .i64 v)
  re : w.rangeAt b (p + 2) ce
  rf : w.rangeAt b (p + 6) cf
  cb : w.cell? ⟨b, p + 10, none⟩ = some bv
  co : w.cell? ⟨b, p + 11, none⟩ = some ov
  he : ExprV F w ce e
  hf : ExprV F w cf f
  hb : StmtsV F w bv lb
  ho : StmtsV F w ov lo
  inF : F b

theorem list4 {cs : List Value} (h : cs.length = 4) : ∃ a b c d, cs = [a, b, c, d] := by
  match cs, h with
  | [a, b, c, d], _ => exact ⟨a, b, c, d, rfl⟩

theorem stmtAt_mk {F : Nat → Prop} {w : World} {b p : Nat} {op v : Int} {e f : ET} {lb lo : List ST} {ce cf : List Value} {bv ov : Value} (h : w.rangeAt b p (scells op v ce cf bv ov)) (hF : F b) (he : ExprV F w ce e) (hf : ExprV F w cf f) (hb : StmtsV F w bv lb) (ho : StmtsV F w ov lo) : StmtAt F w b p op v e f lb lo ce cf bv ov := by
  obtain ⟨a0, a1, a2, a3, rfl⟩ := list4 he.length
  obtain ⟨b0, b1, b2, b3, rfl⟩ := list4 hf.length
  exact ⟨h, h 0 _ rfl, h 1 _ rfl, range_subT h 2 rfl, range_subT h 6 rfl, h 10 _ rfl, h 11 _ rfl, he, hf, hb, ho, hF⟩

theorem StmtsV.stmtAt {F : Nat → Prop} {w : World} {x : Value} {l : List ST} (h : StmtsV F w x l) {i : Nat} {op v : Int} {e f : ET} {lb lo : List ST} (ht : l[i]? = some (.mk op v e f lb lo)) :
    ∃ b q cap ce cf bv ov, x = .slice (some ⟨b, q, none⟩) l.length cap ∧ StmtAt F w b (q + i * 12) op v e f lb lo ce cf bv ov := by
  obtain ⟨b, q, cap, ci, hv, hF, hra, hci⟩ := h.at ht
  obtain ⟨ce, cf, bv, ov, rfl, he, hf, hb, ho⟩ := hci.inv
  exact ⟨b, q, cap, ce, cf, bv, ov, hv, stmtAt_mk hra hF he hf hb ho⟩

theorem StmtAt.keep {F : Nat → Prop} {w w' : World} {b p : Nat} {op v : Int} {e f : ET} {lb lo : List ST} {ce cf : List Value} {bv ov : Value} {fp : List Nat} (h : StmtAt F w b p op v e f lb lo ce cf bv ov) (hk : Keep fp w w') (hs : Stays F w fp) : StmtAt F w' b p op v e f lb lo ce cf bv ov :=
  stmtAt_mk (range_keep h.whole hk (hs b h.inF).1 (hs b h.inF).2) h.inF (h.he.keep hk hs) (h.hf.keep hk hs) (h.hb.keep hk hs) (h.ho.keep hk hs)
theorem StmtAt.stmt {F : Nat → Prop} {w : World} {b p : Nat} {op v : Int} {e f : ET} {lb lo : List ST} {ce cf : List Value} {bv ov : Value} (h : StmtAt F w b p op v e f lb lo ce cf bv ov) : StmtV F w (scells op v ce cf bv ov) (.mk op v e f lb lo) := StmtV.of h.he h.hf h.hb h.ho

/-- The expression at p of block b, field by field. -/
structure ExprAt (F : Nat → Prop) (w : World) (b p : Nat) (op v n : Int) (l : List ET) (lv : Value) : Prop where
  whole : w.rangeAt b p [.int .i64 op, .int .i64 v, .int .i64 n, lv]
  cop : w.cell? ⟨b, p + 0, none⟩ = some (.int .i64 op)
  cv : w.cell? ⟨b, p + 1, none⟩ = some (.int .i64 v)
  cn : w.cell? ⟨b, p + 2, none⟩ = some (.int .i64 n)
  cl : w.cell? ⟨b, p + 3, none⟩ = some lv
  hl : ExprsV F w lv l
  inF : F b
theorem exprAt_mk {F : Nat → Prop} {w : World} {b p : Nat} {op v n : Int} {l : List ET} {lv : Value} (h : w.rangeAt b p [.int .i64 op, .int .i64 v, .int .i64 n, lv]) (hF : F b) (hl : ExprsV F w lv l) : ExprAt F w b p op v n l lv :=
  ⟨h, h 0 _ rfl, h 1 _ rfl, h 2 _ rfl, h 3 _ rfl, hl, hF⟩
theorem ExprsV.exprAt {F : Nat → Prop} {w : World} {x : Value} {l : List ET} (h : ExprsV F w x l) {i : Nat} {op v n : Int} {l' : List ET} (ht : l[i]? = some (.mk op v n l')) :
    ∃ b q cap lv, x = .slice (some ⟨b, q, none⟩) l.length cap ∧ ExprAt F w b (q + i * 4) op v n l' lv := by
  obtain ⟨b, q, cap, ci, hv, hF, hra, hci⟩ := h.at ht
  obtain ⟨lv, rfl, hl⟩ := hci.inv
  exact ⟨b, q, cap, lv, hv, exprAt_mk hra hF hl⟩
theorem ExprAt.expr {F : Nat → Prop} {w : World} {b p : Nat} {op v n : Int} {l : List ET} {lv : Value} (h : ExprAt F w b p op v n l lv) : ExprV F w [.int .i64 op, .int .i64 v, .int .i64 n, lv] (.mk op v n l) := ExprV.of h.hl
end E
end Go.Proofs.YtmplkogkphmmjafGreat
