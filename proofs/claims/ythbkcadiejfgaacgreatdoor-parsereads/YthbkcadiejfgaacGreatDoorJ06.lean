/- Several texts in one: TreeRd, TreeV, Res2, Step, TreeB, PaR, TkC, TkD, PlA, ParE, ParS. -/
import Derived.Test.YthbkcadiejfgaacGreatDoorJ05
import Derived.Test.YthbkcadiejfgaacGreatDoorJ04
import Derived.Test.YthbkcadiejfgaacGreatDoorJ02
import Derived.Test.YthbkcadiejfgaacGreatDoorJ03
/- Reading an argument: trees of expressions and of statements. -/
namespace Go.Proofs.YthbkcadiejfgaacGreatDoor
set_option maxRecDepth 20000
set_option maxHeartbeats 4000000
namespace E

section
variable {H : Type} {enc : TypeId × Value → H} {P : Program} {w : World} {base : Nat} {spare : Nat → Bool} {held : Bool}

theorem open_rows {α : Type} {Q : List Value → α → Prop} {fuel : Nat} {t e : TypeId} {cs : List Value} {x : DataW H × List MemPlace} (k : Nat) (hk : 0 < k) (ht : P.underlying t = some (.slice e)) (hc : P.cellsOf e = k)
    (hel : ∀ n, n < fuel → ∀ cs x, DataW.trod enc P w base spare held n e cs = some x → ∃ s, Q cs s) (h : DataW.trod enc P w base spare held fuel t cs = some x) :
    ∃ (a : Option Addr) (cap : Nat) (L : List α) (cc : Nat → List Value), cs = [.slice a L.length cap] ∧ RowAt (fun b => b < w.heap.size) w k a L.length cc ∧ (∀ i (hi : i < L.length), Q (cc i) (L[i]'hi)) ∧ L.length ≤ cap := by
  rcases DataW.trod_slice ht h with ⟨hcs, _⟩ | ⟨a, len, cap, elems, rest, n, hn, hcs, _, _, hcap, _, hlen, hall, _⟩
  · exact ⟨none, 0, [], fun _ => [], hcs, fun h => absurd h (by simp), fun i hi => by simp at hi, by simp⟩
  · rw [hc] at hall
    have hel' : ∀ i, i < len → ∃ s : List Value × α, Q s.1 s.2 ∧ w.cells? base (a.add (i * k)) k = some s.1 := fun i hi => by
      have h1 := hall i hi
      rw [List.getElem?_eq_getElem (by omega)] at h1
      cases hcl : w.cells? base (a.add (i * k)) k with
      | none => rw [hcl] at h1; cases h1
      | some cs' =>
        rw [hcl] at h1
        obtain ⟨s, hs⟩ := hel n (by omega) cs' _ h1
        exact ⟨(cs', s), hs, rfl⟩
    obtain ⟨L, hL, hp⟩ := choose_list len hel'
    have hget : ∀ i (hi : i < L.length), (((L[i]?).map (·.1)).getD []) = (L[i]'hi).1 := fun i hi => by rw [List.getElem?_eq_getElem hi]; rfl
    refine ⟨some a, cap, L.map (·.2), fun i => ((L[i]?).map (·.1)).getD [], by rw [hcs, List.length_map, hL], ?_, fun i hi => ?_, by rw [List.length_map, hL]; exact hcap⟩
    · intro h0
      rw [List.length_map] at h0
      have hcell : ∀ i (hi : i < L.length) j v, (L[i]'hi).1[j]? = some v → w.cell? (a.add (i * k + j)) = some v := fun i hi j v hv => by
        have := (cells?_get (hp i _ (List.getElem?_eq_getElem hi)).2).2 j v hv
        rwa [Go.Deep.add_add] at this
      have hl0 : (L[0]'h0).1.length = k := (cells?_get (hp 0 _ (List.getElem?_eq_getElem h0)).2).1
      have hc0 := hcell 0 h0 0 ((L[0]'h0).1[0]'(by omega)) (List.getElem?_eq_getElem (by omega))
      have hsp : a.spot = none := by
        have := World.cell?_spot hc0
        simpa [Addr.add] using this
      obtain ⟨b, q, sp⟩ := a
      simp only at hsp
      subst hsp
      refine ⟨b, q, rfl, ?_, fun i hi j v hv => ?_⟩
      · have := World.block_lt_of_cell? w _ hc0
        simpa [Addr.add] using this
      · rw [List.length_map] at hi
        replace hv : (((L[i]?).map (·.1)).getD [])[j]? = some v := hv
        rw [hget i hi] at hv
        have := hcell i hi j v hv
        rw [Addr.add_mid] at this
        rw [Nat.add_assoc]
        exact this
    · rw [List.length_map] at hi
      show Q (((L[i]?).map (·.1)).getD []) _
      rw [hget i hi, List.getElem_map]
      exact (hp i _ (List.getElem?_eq_getElem hi)).1

/-- An expression's four cells, each read. -/
def ExprSplit (enc : TypeId × Value → H) (P : Program) (w : World) (base : Nat) (spare : Nat → Bool) (held : Bool) (tI tL tLE tE : TypeId) : Prop :=
  ∀ fuel cs x, DataW.trod enc P w base spare held fuel tE cs = some x → ∃ n c0 c1 c2 c3, fuel = n + 1 ∧ cs = [c0, c1, c2, c3] ∧
    (∃ y, DataW.trod enc P w base spare held n tI [c0] = some y) ∧ (∃ y, DataW.trod enc P w base spare held n tI [c1] = some y) ∧ (∃ y, DataW.trod enc P w base spare held n tL [c2] = some y) ∧ (∃ y, DataW.trod enc P w base spare held n tLE [c3] = some y)
/-- A statement's cells, each part read. -/
def StmtSplit (enc : TypeId × Value → H) (P : Program) (w : World) (base : Nat) (spare : Nat → Bool) (held : Bool) (tI tE tLS tS : TypeId) : Prop :=
  ∀ fuel cs x, DataW.trod enc P w base spare held fuel tS cs = some x → ∃ n c0 c1 ce cf cb co, fuel = n + 1 ∧ cs = [c0, c1] ++ ce ++ cf ++ [cb, co] ∧
    (∃ y, DataW.trod enc P w base spare held n tI [c0] = some y) ∧ (∃ y, DataW.trod enc P w base spare held n tI [c1] = some y) ∧ (∃ y, DataW.trod enc P w base spare held n tE ce = some y) ∧ (∃ y, DataW.trod enc P w base spare held n tE cf = some y) ∧
    (∃ y, DataW.trod enc P w base spare held n tLS [cb] = some y) ∧ (∃ y, DataW.trod enc P w base spare held n tLS [co] = some y)

theorem int_cell {tI : TypeId} {n : Nat} {c : Value} {y : DataW H × List MemPlace} (hI : P.underlying tI = some (.int .i64)) (h : DataW.trod enc P w base spare held n tI [c] = some y) : ∃ z, c = .int .i64 z := by
  obtain ⟨z, hz, _⟩ := trod_int1 hI h
  simp at hz
  exact ⟨z, hz⟩

theorem trod_expr {tI tL tLE tE : TypeId} (hI : P.underlying tI = some (.int .i64)) (hL : P.underlying tL = some (.int .i64)) (hLE : P.underlying tLE = some (.slice tE)) (hc : P.cellsOf tE = 4) (hsp : ExprSplit enc P w base spare held tI tL tLE tE) :
    ∀ (fuel : Nat) (cs : List Value) (x : DataW H × List MemPlace), DataW.trod enc P w base spare held fuel tE cs = some x → ∃ t, ExprV (fun b => b < w.heap.size) w cs t := by
  intro fuel
  induction fuel using Nat.strongRecOn with
  | _ fuel ih =>
    intro cs x h
    obtain ⟨n, c0, c1, c2, c3, hn, rfl, ⟨_, h0⟩, ⟨_, h1⟩, ⟨_, h2⟩, ⟨_, h3⟩⟩ := hsp fuel cs x h
    obtain ⟨op, rfl⟩ := int_cell hI h0
    obtain ⟨v, rfl⟩ := int_cell hI h1
    obtain ⟨z, rfl⟩ := int_cell hL h2
    obtain ⟨a, cap, L, cc, hcs, hr, hq, _⟩ := open_rows (Q := ExprV (fun b => b < w.heap.size) w) 4 (by decide) hLE hc (fun m hm cs x h => ih m (by omega) cs x h) h3
    simp at hcs
    subst hcs
    exact ⟨.mk op v z L, .mk cc hr hq⟩

theorem trod_stmt {tI tL tLE tE tLS tS : TypeId} (hI : P.underlying tI = some (.int .i64)) (hL : P.underlying tL = some (.int .i64)) (hLE : P.underlying tLE = some (.slice tE)) (hc : P.cellsOf tE = 4) (hsp : ExprSplit enc P w base spare held tI tL tLE tE)
    (hLS : P.underlying tLS = some (.slice tS)) (hcS : P.cellsOf tS = 12) (hspS : StmtSplit enc P w base spare held tI tE tLS tS) :
    ∀ (fuel : Nat) (cs : List Value) (x : DataW H × List MemPlace), DataW.trod enc P w base spare held fuel tS cs = some x → ∃ t, StmtV (fun b => b < w.heap.size) w cs t := by
  intro fuel
  induction fuel using Nat.strongRecOn with
  | _ fuel ih =>
    intro cs x h
    obtain ⟨n, c0, c1, ce, cf, cb, co, hn, rfl, ⟨_, h0⟩, ⟨_, h1⟩, ⟨_, h2⟩, ⟨_, h3⟩, ⟨_, h4⟩, ⟨_, h5⟩⟩ := hspS fuel cs x h
    obtain ⟨op, rfl⟩ := int_cell hI h0
    obtain ⟨v, rfl⟩ := int_cell hI h1
    obtain ⟨e, he⟩ := trod_expr hI hL hLE hc hsp n ce _ h2
    obtain ⟨f, hf⟩ := trod_expr hI hL hLE hc hsp n cf _ h3
    obtain ⟨ab, capb, Lb, ccb, hcb, hrb, hqb, _⟩ := open_rows (Q := StmtV (fun b => b < w.heap.size) w) 12 (by decide) hLS hcS (fun m hm cs x h => ih m (by omega) cs x h) h4
    obtain ⟨ao, capo, Lo, cco, hco, hro, hqo, _⟩ := open_rows (Q := StmtV (fun b => b < w.heap.size) w) 12 (by decide) hLS hcS (fun m hm cs x h => ih m (by omega) cs x h) h5
    simp at hcb hco
    subst hcb
    subst hco
    exact ⟨.mk op v e f Lb Lo, .mk ccb cco he hf hrb hqb hro hqo⟩
end
end E
end Go.Proofs.YthbkcadiejfgaacGreatDoor

/- Variables of a program, as they lie in memory and as they are read. -/
namespace Go.Proofs.YthbkcadiejfgaacGreatDoor
set_option maxRecDepth 20000
set_option maxHeartbeats 4000000
namespace E

def vcell (x : VarT) : List Value := [.string x.1, .int .i64 x.2]

/-- A slice of variables. -/
def VarsV (F : Nat → Prop) (w : World) (v : Value) (l : List VarT) : Prop :=
  ∃ a cap, v = .slice a l.length cap ∧ l.length ≤ cap ∧ RowAt F w 2 a l.length (fun i => vcell (l.getD i (ByteArray.empty, 0)))

section
variable {F F' : Nat → Prop} {w w' : World} {v : Value} {l : List VarT}
theorem VarsV.keep {fp : List Nat} (h : VarsV F w v l) (hk : Keep fp w w') (hs : Stays F w fp) : VarsV F w' v l := by
  obtain ⟨a, cap, hv, hc, hr⟩ := h
  exact ⟨a, cap, hv, hc, hr.keep hk hs⟩
theorem VarsV.mono (h : VarsV F w v l) (hF : ∀ b, F b → F' b) : VarsV F' w v l := by
  obtain ⟨a, cap, hv, hc, hr⟩ := h
  exact ⟨a, cap, hv, hc, hr.mono hF⟩
theorem VarsV.form (h : VarsV F w v l) : ∃ a cap, v = .slice a l.length cap := by
  obtain ⟨a, cap, hv, _⟩ := h
  exact ⟨a, cap, hv⟩
theorem VarsV.room {a : Option Addr} {cap : Nat} (h : VarsV F w (.slice a l.length cap) l) : l.length ≤ cap := by
  obtain ⟨a', cap', hv, hc, _⟩ := h
  cases hv
  exact hc
theorem VarsV.at (h : VarsV F w v l) {i : Nat} {x : VarT} (hx : l[i]? = some x) : ∃ b q cap, v = .slice (some ⟨b, q, none⟩) l.length cap ∧ F b ∧ w.rangeAt b (q + i * 2) (vcell x) := by
  obtain ⟨a, cap, hv, _, hr⟩ := h
  obtain ⟨hlt, e⟩ := List.getElem?_eq_some_iff.1 hx
  obtain ⟨b, q, ha, hF, hra⟩ := hr (by omega)
  have this : w.rangeAt b (q + i * 2) (vcell (l.getD i (ByteArray.empty, 0))) := hra i hlt
  rw [List.getD_eq_getElem?_getD, hx] at this
  exact ⟨b, q, cap, by rw [hv, ha], hF, this⟩
end

/-- A program as a value: its variables, its body. -/
def ProgV (F : Nat → Prop) (w : World) (v : Value) (vs : List VarT) (b : List ST) : Prop := ∃ vv bv, v = .agg #[vv, bv] ∧ VarsV F w vv vs ∧ StmtsV F w bv b
theorem ProgV.keep {F : Nat → Prop} {w w' : World} {v : Value} {vs : List VarT} {b : List ST} {fp : List Nat} (h : ProgV F w v vs b) (hk : Keep fp w w') (hs : Stays F w fp) : ProgV F w' v vs b := by
  obtain ⟨vv, bv, hv, h1, h2⟩ := h
  exact ⟨vv, bv, hv, h1.keep hk hs, h2.keep hk hs⟩
theorem ProgV.mono {F F' : Nat → Prop} {w : World} {v : Value} {vs : List VarT} {b : List ST} (h : ProgV F w v vs b) (hF : ∀ b, F b → F' b) : ProgV F' w v vs b := by
  obtain ⟨vv, bv, hv, h1, h2⟩ := h
  exact ⟨vv, bv, hv, h1.mono hF, h2.mono hF⟩

section
variable {H : Type} {enc : TypeId × Value → H} {P : Program} {w : World} {base : Nat} {spare : Nat → Bool} {held : Bool}
/-- A variable's two cells, each read. -/
def VarSplit (enc : TypeId × Value → H) (P : Program) (w : World) (base : Nat) (spare : Nat → Bool) (held : Bool) (tStr tI tV : TypeId) : Prop :=
  ∀ fuel cs x, DataW.trod enc P w base spare held fuel tV cs = some x → ∃ n c0 c1, fuel = n + 1 ∧ cs = [c0, c1] ∧ (∃ y, DataW.trod enc P w base spare held n tStr [c0] = some y) ∧ (∃ y, DataW.trod enc P w base spare held n tI [c1] = some y)

theorem trod_vars {tStr tI tLV tV : TypeId} (hS : P.underlying tStr = some .string) (hI : P.underlying tI = some (.int .i64)) (hLV : P.underlying tLV = some (.slice tV)) (hc : P.cellsOf tV = 2) (hsp : VarSplit enc P w base spare held tStr tI tV)
    {fuel : Nat} {cs : List Value} {x : DataW H × List MemPlace} (h : DataW.trod enc P w base spare held fuel tLV cs = some x) : ∃ vv l, cs = [vv] ∧ VarsV (fun b => b < w.heap.size) w vv l := by
  obtain ⟨a, cap, L, cc, hcs, hr, hq, hcap⟩ := open_rows (Q := fun cs (x : VarT) => cs = vcell x) 2 (by decide) hLV hc (fun m _ cs x h => by
    obtain ⟨n, c0, c1, _, rfl, ⟨_, h0⟩, ⟨_, h1⟩⟩ := hsp m cs x h
    obtain ⟨s, hs, _⟩ := DataW.trod_string hS h0
    obtain ⟨z, hz⟩ := int_cell hI h1
    simp at hs
    exact ⟨(s, z), by rw [hs, hz]; rfl⟩) h
  refine ⟨_, L, hcs, a, cap, rfl, hcap, fun h0 => ?_⟩
  obtain ⟨b, q, ha, hF, hra⟩ := hr h0
  refine ⟨b, q, ha, hF, fun i hi => ?_⟩
  have := hra i hi
  rw [hq i hi] at this
  show w.rangeAt b (q + i * 2) (vcell (L.getD i (ByteArray.empty, 0)))
  rw [List.getD_eq_getElem?_getD, List.getElem?_eq_getElem hi]
  exact this
end
end E
end Go.Proofs.YthbkcadiejfgaacGreatDoor

/- Functions with several results; rows of trees that are being made. -/
namespace Go.Proofs.YthbkcadiejfgaacGreatDoor
set_option maxRecDepth 20000
set_option maxHeartbeats 4000000
namespace E

section
variable {P : Program} {f n : Nat} {k : List Item} {K Kp : Value → World → Prop} {σ : Env} {w : World}

theorem rn_ret3 {fn : Func} {t0 t1 t2 : Nat} {v0 v1 v2 : Value} (hf : P.funcs[f]? = some fn) (hr : fn.results = #[.tmp t0, .tmp t1, .tmp t2]) (h0 : look σ t0 = some v0) (h1 : look σ t1 = some v1) (h2 : look σ t2 = some v2)
    (hR : K (.tuple #[v0, v1, v2]) w) : Rn P f n (.code .ret :: k) (endR K Kp) σ w := fun a ha hd =>
  runs_ret hf hd (by simp only [results, hr]; simp [ha.has t0 _ h0, ha.has t1 _ h1, ha.has t2 _ h2]) hR
theorem rn_ret5 {fn : Func} {t0 t1 t2 t3 t4 : Nat} {v0 v1 v2 v3 v4 : Value} (hf : P.funcs[f]? = some fn) (hr : fn.results = #[.tmp t0, .tmp t1, .tmp t2, .tmp t3, .tmp t4]) (h0 : look σ t0 = some v0) (h1 : look σ t1 = some v1) (h2 : look σ t2 = some v2)
    (h3 : look σ t3 = some v3) (h4 : look σ t4 = some v4) (hR : K (.tuple #[v0, v1, v2, v3, v4]) w) : Rn P f n (.code .ret :: k) (endR K Kp) σ w := fun a ha hd =>
  runs_ret hf hd (by simp only [results, hr]; simp [ha.has t0 _ h0, ha.has t1 _ h1, ha.has t2 _ h2, ha.has t3 _ h3, ha.has t4 _ h4]) hR
end

section
variable {w : World} {B e k : Nat} {v : Value}

theorem flatten_at {k : Nat} {ccs : List (List Value)} (hk : ∀ c ∈ ccs, c.length = k) {i : Nat} {c : List Value} (h : ccs[i]? = some c) : (ccs.flatten.drop (i * k)).take k = c := by
  have := flat_at (f := fun x : List Value => x) (k := k) hk h
  simpa [List.flatMap_id'] using this
theorem flatten_length {k : Nat} {ccs : List (List Value)} (hk : ∀ c ∈ ccs, c.length = k) : ccs.flatten.length = ccs.length * k := by
  have := flat_length (f := fun x : List Value => x) (k := k) hk
  simpa [List.flatMap_id'] using this

/-- A row that is owned, by its elements. -/
theorem own_rowAt {ccs : List (List Value)} (h : Own w B e k v ccs.length ccs.flatten) (hk : ∀ c ∈ ccs, c.length = k) :
    ∃ a cap, v = .slice a ccs.length cap ∧ RowAt (fun b => v.ownBlock = some b) w k a ccs.length (fun i => ccs.getD i []) := by
  obtain ⟨a, cap, hv⟩ := h.form
  refine ⟨a, cap, hv, fun h0 => ?_⟩
  obtain ⟨g, cap', hv', hr⟩ := h.range (q := 0) (cs := ccs.flatten) (by rw [List.drop_zero, List.take_length]) h0
  rw [hv] at hv'
  injection hv' with e1 e2 e3
  subst e1
  refine ⟨g, 0, rfl, by rw [hv]; rfl, fun i hi j u hu => ?_⟩
  replace hu : (ccs.getD i [])[j]? = some u := hu
  rw [List.getD_eq_getElem?_getD, List.getElem?_eq_getElem hi] at hu
  have hc := hk _ (List.getElem_mem hi)
  have hj : j < k := by
    have := (List.getElem?_eq_some_iff.1 hu).1
    simp only [Option.getD_some] at this
    omega
  have hat := flatten_at hk (List.getElem?_eq_getElem hi)
  simp only [Option.getD_some] at hu
  rw [← hat, List.getElem?_take, if_pos hj, List.getElem?_drop] at hu
  have := hr (i * k + j) u hu
  rwa [← Nat.add_assoc] at this

theorem exprs_of_own {F : Nat → Prop} {ccs : List (List Value)} {l : List ET} (h : Own w B e 4 v ccs.length ccs.flatten) (hl : ccs.length = l.length) (hc : ∀ i (hi : i < l.length), ExprV F w (ccs.getD i []) (l[i]'hi)) : ExprsV (fun b => v.ownBlock = some b ∨ F b) w v l := by
  have hk : ∀ c ∈ ccs, c.length = 4 := fun c hm => by
    obtain ⟨i, hi, rfl⟩ := List.mem_iff_getElem.1 hm
    have := (hc i (by omega)).length
    rwa [List.getD_eq_getElem?_getD, List.getElem?_eq_getElem hi] at this
  obtain ⟨a, cap, hv, hr⟩ := own_rowAt h hk
  rw [hl] at hv hr
  exact ⟨a, cap, _, hv, hr.mono fun b hb => .inl hb, fun i hi => (hc i hi).mono fun b hb => .inr hb⟩
theorem stmts_of_own {F : Nat → Prop} {ccs : List (List Value)} {l : List ST} (h : Own w B e 12 v ccs.length ccs.flatten) (hl : ccs.length = l.length) (hc : ∀ i (hi : i < l.length), StmtV F w (ccs.getD i []) (l[i]'hi)) : StmtsV (fun b => v.ownBlock = some b ∨ F b) w v l := by
  have hk : ∀ c ∈ ccs, c.length = 12 := fun c hm => by
    obtain ⟨i, hi, rfl⟩ := List.mem_iff_getElem.1 hm
    have := (hc i (by omega)).length
    rwa [List.getD_eq_getElem?_getD, List.getElem?_eq_getElem hi] at this
  obtain ⟨a, cap, hv, hr⟩ := own_rowAt h hk
  rw [hl] at hv hr
  exact ⟨a, cap, _, hv, hr.mono fun b hb => .inl hb, fun i hi => (hc i hi).mono fun b hb => .inr hb⟩
end
end E
end Go.Proofs.YthbkcadiejfgaacGreatDoor

/- Trees' sizes. -/
namespace Go.Proofs.YthbkcadiejfgaacGreatDoor
set_option maxRecDepth 20000
set_option maxHeartbeats 4000000
namespace E
theorem In.stays {F : Nat → Prop} {w : World} (h : In F w) : Stays F w [] := fun k hk => ⟨h k hk, by simp⟩
/-! ### Sizes -/
theorem szE_pos (t : ET) : 1 ≤ szE t := by cases t; simp only [szE]; omega
theorem szS_pos (t : ST) : 1 ≤ szS t := by cases t; simp only [szS]; omega
theorem szEs_len : ∀ (l : List ET), l.length ≤ szEs l
  | [] => by simp [szEs]
  | t :: r => by have := szEs_len r; have := szE_pos t; simp only [List.length_cons, szEs]; omega
theorem szSs_len : ∀ (l : List ST), l.length ≤ szSs l
  | [] => by simp [szSs]
  | t :: r => by have := szSs_len r; have := szS_pos t; simp only [List.length_cons, szSs]; omega
theorem szEs_append : ∀ (a b : List ET), szEs (a ++ b) = szEs a + szEs b
  | [], b => by simp [szEs]
  | t :: r, b => by simp only [List.cons_append, szEs, szEs_append r b]; omega
theorem szSs_append : ∀ (a b : List ST), szSs (a ++ b) = szSs a + szSs b
  | [], b => by simp [szSs]
  | t :: r, b => by simp only [List.cons_append, szSs, szSs_append r b]; omega
theorem szEs_succ {l : List ET} {i : Nat} {t : ET} (h : l[i]? = some t) : szEs (l.take (i + 1)) = szEs (l.take i) + szE t := by
  obtain ⟨hlt, e⟩ := List.getElem?_eq_some_iff.1 h
  rw [List.take_succ_eq_append_getElem hlt, szEs_append, e]
  simp [szEs]
theorem szSs_succ {l : List ST} {i : Nat} {t : ST} (h : l[i]? = some t) : szSs (l.take (i + 1)) = szSs (l.take i) + szS t := by
  obtain ⟨hlt, e⟩ := List.getElem?_eq_some_iff.1 h
  rw [List.take_succ_eq_append_getElem hlt, szSs_append, e]
  simp [szSs]
theorem szEs_take (l : List ET) (i : Nat) : szEs (l.take i) ≤ szEs l := by
  have e : szEs l = szEs (l.take i) + szEs (l.drop i) := by rw [← szEs_append, List.take_append_drop]
  omega
theorem szSs_take (l : List ST) (i : Nat) : szSs (l.take i) ≤ szSs l := by
  have e : szSs l = szSs (l.take i) + szSs (l.drop i) := by rw [← szSs_append, List.take_append_drop]
  omega
theorem szEs_ge {l : List ET} {i : Nat} (h : i ≤ l.length) : i ≤ szEs (l.take i) := by
  have := szEs_len (l.take i)
  rw [List.length_take] at this
  omega
theorem szSs_ge {l : List ST} {i : Nat} (h : i ≤ l.length) : i ≤ szSs (l.take i) := by
  have := szSs_len (l.take i)
  rw [List.length_take] at this
  omega
theorem szEs_at {l : List ET} {i : Nat} {t : ET} (h : l[i]? = some t) : szE t ≤ szEs l := by
  have := szEs_succ h
  have := szEs_take l (i + 1)
  omega
theorem szSs_at {l : List ST} {i : Nat} {t : ST} (h : l[i]? = some t) : szS t ≤ szSs l := by
  have := szSs_succ h
  have := szSs_take l (i + 1)
  omega
/-! ### Variables that are owned -/
theorem vars_of_own {w : World} {B e : Nat} {v : Value} {vs : List VarT} (h : Own w B e 2 v vs.length (vs.flatMap vcell)) : VarsV (fun b => B ≤ b ∧ b < w.heap.size) w v vs := by
  rcases h.2 with ⟨hv, h0⟩ | ⟨g, cap, cur, hv, hB, hb, hc, hl, ht⟩
  · have : vs = [] := List.eq_nil_of_length_eq_zero h0
    subst this
    exact ⟨none, 0, hv, by simp, fun h => absurd h (by simp)⟩
  · refine ⟨_, cap, hv, hc, fun h0 => ⟨g, 0, rfl, ⟨hB, hb.lt⟩, fun i hi => ?_⟩⟩
    have hx : vs[i]? = some vs[i] := List.getElem?_eq_getElem hi
    have hf := flat_at (f := vcell) (k := 2) (fun p _ => rfl) hx
    show w.rangeAt g (0 + i * 2) (vcell (vs.getD i (ByteArray.empty, 0)))
    rw [List.getD_eq_getElem?_getD, hx]
    rw [Nat.zero_add]
    refine hb.range ?_
    show (cur.drop (i * 2)).take 2 = vcell vs[i]
    rw [← hf, ← ht, List.drop_take, List.take_take, Nat.min_eq_left (by omega)]
end E
end Go.Proofs.YthbkcadiejfgaacGreatDoor

/- One statement, one expression of a row, field by field. -/
namespace Go.Proofs.YthbkcadiejfgaacGreatDoor
set_option maxRecDepth 20000
set_option maxHeartbeats 4000000
namespace E

theorem range_sub {w : World} {b p : Nat} {cs ds : List Value} (h : w.rangeAt b p cs) (k : Nat) (hd : (cs.drop k).take ds.length = ds) : w.rangeAt b (p + k) ds := fun j u hu => by
  rw [← hd, List.getElem?_take] at hu
  split at hu
  · rw [List.getElem?_drop] at hu
    have := h (k + j) u hu
    rwa [← Nat.add_assoc] at this
  · cases hu

def scells (op v : Int) (ce cf : List Value) (bv ov : Value) : List Value := [.int .i64 op, .int .i64 v] ++ ce ++ cf ++ [bv, ov]

/-- The statement at p of block b, field by field. -/
structure StmtAt (F : Nat → Prop) (w : World) (b p : Nat) (op v : Int) (e f : ET) (lb lo : List ST) (ce cf : List Value) (bv ov : Value) : Prop where
  whole : w.rangeAt b p (scells op v ce cf bv ov)
  cop : w.cell? ⟨b, p + 0, none⟩ = some (.int .i64 op)
  cv : w.cell? ⟨b, p + 1, none⟩ = some (.int .i64 v)
  re : w.rangeAt b (p + 2) ce
  rf : w.rangeAt b (p + 6) cf
  cb : w.cell? ⟨b, p + 10, none⟩ = some bv
  co : w.cell? ⟨b, p + 11, none⟩ = some ov
  he : ExprV F w ce e
  hf : ExprV F w cf f
  hb : StmtsV F w bv lb
  ho : StmtsV F w ov lo
  inF : F b

theorem list4 {cs : List Value} (h : cs.length = 4) : ∃ a b c d, cs = [a, b, c, d] := by
  match cs, h with
  | [a, b, c, d], _ => exact ⟨a, b, c, d, rfl⟩

theorem stmtAt_mk {F : Nat → Prop} {w : World} {b p : Nat} {op v : Int} {e f : ET} {lb lo : List ST} {ce cf : List Value} {bv ov : Value} (h : w.rangeAt b p (scells op v ce cf bv ov)) (hF : F b) (he : ExprV F w ce e) (hf : ExprV F w cf f) (hb : StmtsV F w bv lb) (ho : StmtsV F w ov lo) : StmtAt F w b p op v e f lb lo ce cf bv ov := by
  obtain ⟨a0, a1, a2, a3, rfl⟩ := list4 he.length
  obtain ⟨b0, b1, b2, b3, rfl⟩ := list4 hf.length
  exact ⟨h, h 0 _ rfl, h 1 _ rfl, range_sub h 2 rfl, range_sub h 6 rfl, h 10 _ rfl, h 11 _ rfl, he, hf, hb, ho, hF⟩

theorem StmtsV.stmtAt {F : Nat → Prop} {w : World} {x : Value} {l : List ST} (h : StmtsV F w x l) {i : Nat} {op v : Int} {e f : ET} {lb lo : List ST} (ht : l[i]? = some (.mk op v e f lb lo)) :
    ∃ b q cap ce cf bv ov, x = .slice (some ⟨b, q, none⟩) l.length cap ∧ StmtAt F w b (q + i * 12) op v e f lb lo ce cf bv ov := by
  obtain ⟨b, q, cap, ci, hv, hF, hra, hci⟩ := h.at ht
  obtain ⟨ce, cf, bv, ov, rfl, he, hf, hb, ho⟩ := hci.inv
  exact ⟨b, q, cap, ce, cf, bv, ov, hv, stmtAt_mk hra hF he hf hb ho⟩

theorem StmtAt.keep {F : Nat → Prop} {w w' : World} {b p : Nat} {op v : Int} {e f : ET} {lb lo : List ST} {ce cf : List Value} {bv ov : Value} {fp : List Nat} (h : StmtAt F w b p op v e f lb lo ce cf bv ov) (hk : Keep fp w w') (hs : Stays F w fp) : StmtAt F w' b p op v e f lb lo ce cf bv ov :=
  stmtAt_mk (range_keep h.whole hk (hs b h.inF).1 (hs b h.inF).2) h.inF (h.he.keep hk hs) (h.hf.keep hk hs) (h.hb.keep hk hs) (h.ho.keep hk hs)
theorem StmtAt.stmt {F : Nat → Prop} {w : World} {b p : Nat} {op v : Int} {e f : ET} {lb lo : List ST} {ce cf : List Value} {bv ov : Value} (h : StmtAt F w b p op v e f lb lo ce cf bv ov) : StmtV F w (scells op v ce cf bv ov) (.mk op v e f lb lo) := StmtV.of h.he h.hf h.hb h.ho

/-- The expression at p of block b, field by field. -/
structure ExprAt (F : Nat → Prop) (w : World) (b p : Nat) (op v n : Int) (l : List ET) (lv : Value) : Prop where
  whole : w.rangeAt b p [.int .i64 op, .int .i64 v, .int .i64 n, lv]
  cop : w.cell? ⟨b, p + 0, none⟩ = some (.int .i64 op)
  cv : w.cell? ⟨b, p + 1, none⟩ = some (.int .i64 v)
  cn : w.cell? ⟨b, p + 2, none⟩ = some (.int .i64 n)
  cl : w.cell? ⟨b, p + 3, none⟩ = some lv
  hl : ExprsV F w lv l
  inF : F b
theorem exprAt_mk {F : Nat → Prop} {w : World} {b p : Nat} {op v n : Int} {l : List ET} {lv : Value} (h : w.rangeAt b p [.int .i64 op, .int .i64 v, .int .i64 n, lv]) (hF : F b) (hl : ExprsV F w lv l) : ExprAt F w b p op v n l lv :=
  ⟨h, h 0 _ rfl, h 1 _ rfl, h 2 _ rfl, h 3 _ rfl, hl, hF⟩
theorem ExprsV.exprAt {F : Nat → Prop} {w : World} {x : Value} {l : List ET} (h : ExprsV F w x l) {i : Nat} {op v n : Int} {l' : List ET} (ht : l[i]? = some (.mk op v n l')) :
    ∃ b q cap lv, x = .slice (some ⟨b, q, none⟩) l.length cap ∧ ExprAt F w b (q + i * 4) op v n l' lv := by
  obtain ⟨b, q, cap, ci, hv, hF, hra, hci⟩ := h.at ht
  obtain ⟨lv, rfl, hl⟩ := hci.inv
  exact ⟨b, q, cap, lv, hv, exprAt_mk hra hF hl⟩
theorem ExprAt.expr {F : Nat → Prop} {w : World} {b p : Nat} {op v n : Int} {l : List ET} {lv : Value} (h : ExprAt F w b p op v n l lv) : ExprV F w [.int .i64 op, .int .i64 v, .int .i64 n, lv] (.mk op v n l) := ExprV.of h.hl
end E
end Go.Proofs.YthbkcadiejfgaacGreatDoor

/- What Parse tells, and what the laws of package parse take of it. -/
namespace Go.Proofs.YthbkcadiejfgaacGreatDoor
set_option maxRecDepth 20000
set_option maxHeartbeats 4000000
namespace E
open Go.Proofs

section
variable {P : Program} {f n : Nat} {k : List Item} {K Kp : Value → World → Prop} {σ : Env} {w : World}
theorem rn_retCC {fn : Func} {t0 t1 ty0 ty1 : Nat} {ad0 ad1 : Addr} {x y : Value} (hf : P.funcs[f]? = some fn) (hr : fn.results = #[.cell t0 ty0, .cell t1 ty1]) (h0 : look σ t0 = some (.pointer (some ad0))) (h1 : look σ t1 = some (.pointer (some ad1))) (hv0 : (loadVar ty0 ad0).run P w = .ok x w) (hv1 : (loadVar ty1 ad1).run P w = .ok y w)
    (hR : K (.tuple #[x, y]) w) : Rn P f n (.code .ret :: k) (endR K Kp) σ w := fun a ha hd =>
  runs_ret hf hd (by simp only [results, hr]; simp [ha.has t0 _ h0, ha.has t1 _ h1, asAddr, hv0, hv1]) hR
end

def pz : List Value := [.slice none 0 0, .slice none 0 0]
theorem zero_pr : ((Tryz.prog.info? 26).bind (·.zero)).map (·.cells) = some pz.toArray := by kernel_rfl
theorem built_pr0 : Tryz.prog.built 26 [] = some pz.toArray := by kernel_rfl
theorem size_pr : sizeOk Tryz.prog 26 2 = true := by kernel_rfl
theorem one_pr (a b : Option Addr) (n c m d : Nat) : ∀ u ∈ [Value.slice a n c, .slice b m d], u.oneCell' = true := by
  intro u hu
  simp only [List.mem_cons, List.not_mem_nil, or_false] at hu
  rcases hu with rfl | rfl <;> rfl
def fltOf {α : Type} : Except Flt α → Flt
  | .ok _ => (0, 0)
  | .error e => e
def prgOf : Except Flt (List VarT × List ST) → List VarT × List ST
  | .ok p => p
  | .error _ => ([], [])
/-- Its statements' slice is no longer than its capacity. -/
def CapV (x : Value) : Prop := ∃ vv a n c, x = .agg #[vv, .slice a n c] ∧ n ≤ c
theorem own_cap {w : World} {B e size n c ln : Nat} {a : Option Addr} {xs : List Value} (h : Own w B e size (.slice a n c) ln xs) : n ≤ c := by
  rcases h.2 with ⟨hv, _⟩ | ⟨g, cap, cur, hv, _, _, hc, _⟩
  · injection hv with _ h1 h2
    omega
  · injection hv with _ h1 h2
    omega
/-- What Parse tells. -/
def ParR (w0 w : World) (r : Value) (X : Except Flt (List VarT × List ST)) : Prop :=
  ∃ (x : Value) (F : Nat → Prop), r = .tuple #[x, .agg #[.int .i64 (fltOf X).1, .int .i64 (fltOf X).2]] ∧ ProgV F w x (prgOf X).1 (prgOf X).2 ∧ CapV x ∧ ∀ c, F c → w0.heap.size ≤ c ∧ c < w.heap.size
theorem capV_nil : CapV (.agg pz.toArray) := ⟨_, none, 0, 0, rfl, Nat.le_refl _⟩
theorem progV_nil {F : Nat → Prop} {w : World} : ProgV F w (.agg pz.toArray) [] [] := ⟨_, _, rfl, ⟨none, 0, rfl, Nat.le_refl _, fun h => absurd h (by simp)⟩, StmtsV.nil⟩

/-- What is to be shown of package parse. -/
structure PkC : Prop where
  parse : ∀ (l : List UInt8), l.length ≤ 100000 → ∀ {w : World}, Lw w → Ret Tryz.prog 6 [.string (str l)] w fun r w' => ParR w w' r (parseOf l) ∧ Keep [] w w'
  word : ∀ (k : Int) {w : World}, Lw w → Ret Tryz.prog 9 [.int .i64 k] w fun r w' => r = .string (str (wordI k)) ∧ Keep [] w w'
  verb : ∀ (k : Int) {w : World}, Lw w → Ret Tryz.prog 11 [.int .i64 k] w fun r w' => r = .string (str (verbI k)) ∧ Keep [] w w'

def begunT : List UInt8 := [108, 101, 116, 32, 97, 32, 50, 32, 40, 119, 104, 105, 108, 101, 32, 40, 108, 101, 115, 115, 32, 40, 118, 97, 114, 32, 97, 41, 32, 40, 110, 117, 109, 32, 51] ++ [41, 41, 32, 40, 40, 115, 101, 116, 32, 97, 32, 40, 97, 100, 100, 32, 40, 118, 97, 114, 32, 97, 41, 32, 40, 110, 117, 109, 32, 49, 41, 41, 41, 41, 41]
def begunP : List VarT × List ST := ([(str [97], 2)], [.mk 5 0 (.mk 7 0 0 [.mk 2 0 0 [], .mk 1 0 3 []]) zeroT [.mk 1 0 (.mk 4 0 0 [.mk 2 0 0 [], .mk 1 0 1 []]) zeroT [] []] []])
theorem begun_parse : parseOf begunT = .ok begunP := by kernel_rfl
end E
end Go.Proofs.YthbkcadiejfgaacGreatDoor

/- Contract of first: what a text that is not empty begins with. -/
namespace Go.Proofs.YthbkcadiejfgaacGreatDoor
set_option maxRecDepth 20000
set_option maxHeartbeats 4000000
namespace E
open Go.Proofs

theorem take_while (p : UInt8 → Bool) : ∀ (l : List UInt8), l.take (l.takeWhile p).length = l.takeWhile p
  | [] => rfl
  | c :: r => by
    by_cases h : p c = true
    · rw [List.takeWhile_cons_of_pos h, List.length_cons, List.take_succ_cons, take_while p r]
    · rw [List.takeWhile_cons_of_neg h]
      rfl
theorem while_le (p : UInt8 → Bool) : ∀ (l : List UInt8), (l.takeWhile p).length ≤ l.length
  | [] => Nat.le_refl _
  | c :: r => by
    have := while_le p r
    by_cases h : p c = true
    · rw [List.takeWhile_cons_of_pos h, List.length_cons, List.length_cons]; omega
    · rw [List.takeWhile_cons_of_neg h]
      exact Nat.zero_le _

section
variable {c : UInt8} {r : List UInt8}
theorem bit_paren (hb : blankB c = false) (hp : parenB c = true) : bit c r = .tok [c] false 0 := by
  unfold bit
  rw [hb, hp]
  rfl
theorem bit_word (hb : blankB c = false) (hp : parenB c = false) (hl : letB c = true) : bit c r = .tok (c :: r.takeWhile letB) false 0 := by
  unfold bit
  rw [hb, hp, hl]
  rfl
theorem bit_num (hb : blankB c = false) (hp : parenB c = false) (hl : letB c = false) (hd : (dig c || c == 45) = true) : bit c r = (match longOf (c :: r.takeWhile dig) with | some v => .tok (c :: r.takeWhile dig) true v | none => .bad) := by
  unfold bit
  rw [hb, hp, hl, hd]
  rfl
theorem bit_none (hb : blankB c = false) (hp : parenB c = false) (hl : letB c = false) (hd : (dig c || c == 45) = false) : bit c r = .bad := by
  unfold bit
  rw [hb, hp, hl, hd]
  rfl
theorem bitV_num (hb : blankB c = false) (hp : parenB c = false) (hl : letB c = false) (hd : (dig c || c == 45) = true) : bitV (bit c r) = numV (c :: r.takeWhile dig) := by
  rw [bit_num hb hp hl hd]
  unfold numV
  cases longOf (c :: r.takeWhile dig) <;> rfl
theorem numV_form (l : List UInt8) : ∃ (cs : List Value) (b : Bool), cs.length = 4 ∧ numV l = .tuple #[.agg cs.toArray, .bool b] ∧ ∀ u ∈ cs, u.oneCell' = true := by
  unfold numV
  cases longOf l with
  | some v => exact ⟨_, _, rfl, rfl, tokC_one _ _ _ _⟩
  | none => exact ⟨_, _, rfl, rfl, tokC_one _ _ _ _⟩
end

theorem first_ret (c : UInt8) (r : List UInt8) (hb : blankB c = false) (hl : (c :: r).length ≤ 1000000) {w : World} (hw : Lw w) : Ret Tryz.prog 31 [.string (str (c :: r))] w fun x w' => x = bitV (bit c r) ∧ Keep [] w w' := by
  refine ret_of 42 Tryz.func31 rfl rfl (by simp) ?_
  (repeat (first | refine pl_pure hT rfl rfl rfl ?_ | refine pl_nil ?_ | refine rn_seq ?_ | refine rn_plain ?_ | refine rn_block ?_ | refine rn_inBlock ?_ | refine rn_skip ?_ | refine rn_true rfl ?_ | refine rn_false rfl ?_ | refine rn_exit rfl ?_ | refine pl_not rfl rfl ?_))
  refine pl_op rfl rfl (opTo_allocN _ rfl zero_tok ?_)
  intro w1 b hb0 hs1 hk1 hb1
  (repeat (first | refine pl_pure hT rfl rfl rfl ?_ | refine pl_nil ?_ | refine rn_seq ?_ | refine rn_plain ?_ | refine rn_block ?_ | refine rn_inBlock ?_ | refine rn_skip ?_ | refine rn_true rfl ?_ | refine rn_false rfl ?_ | refine rn_exit rfl ?_ | refine pl_not rfl rfl ?_))
  refine pl_val _ rfl rfl (val_byte (c :: r) 0 c (by decide +kernel) rfl rfl rfl rfl rfl w1) ?_
  by_cases hp : parenB c = true
  · have e := bit_paren (r := r) hb hp
    rw [paren_n, Bool.or_eq_true, decide_eq_true_eq, decide_eq_true_eq] at hp
    rcases hp with hp | hp
    all_goals
      (repeat (first | refine pl_pure hT rfl rfl rfl ?_ | refine pl_nil ?_ | refine rn_seq ?_ | refine rn_plain ?_ | refine rn_block ?_ | refine rn_inBlock ?_ | refine rn_skip ?_ | refine rn_true rfl ?_ | refine rn_false rfl ?_ | refine rn_exit rfl ?_ | refine pl_not rfl rfl ?_ | refine pl_val _ rfl rfl (val_load1 hT rfl rfl rfl (Blk.cell (by assumption) (by rfl))) ?_ | refine pl_yes rfl rfl rfl rfl rfl (by first | (simp only [cmpP]; omega) | (simp [cmpP]; done) | (simp [cmpP]; omega)) ?_ | refine pl_no rfl rfl rfl rfl rfl rfl (by first | (simp only [cmpP]; omega) | (simp [cmpP]; done) | (simp [cmpP]; omega)) ?_))
      refine pl_val _ rfl rfl (val_to (c :: r) 1 (by decide +kernel) rfl rfl rfl rfl (by simp) w1) ?_
      refine pl_op rfl rfl (opTo_call (fst := []) (cap := []) rfl rfl rfl rfl (by decide +kernel) ((word_ret [c] (by simp) w1).mono ?_))
      rintro v w2 ⟨rfl, hk2⟩
      have hb2 := hk2.blk hb1 (by simp)
      refine pl_op rfl rfl (opTo_storeN (tokC 0 [c] false 0) rfl rfl rfl rfl size_tok hb2 (by simp [tokC]) (tokC_one _ _ _ _) ?_)
      intro w3 hs3 hk3 hb3
      rw [splice_whole (by rfl)] at hb3
      (repeat (first | refine pl_pure hT rfl rfl rfl ?_ | refine pl_nil ?_ | refine rn_seq ?_ | refine rn_plain ?_ | refine rn_block ?_ | refine rn_inBlock ?_ | refine rn_skip ?_ | refine rn_true rfl ?_ | refine rn_false rfl ?_ | refine rn_exit rfl ?_ | refine pl_not rfl rfl ?_))
      exact rn_ret Tryz.func31 (.inr (.inr (.inr (.inl ⟨_, _, _, _, _, _, rfl, rfl, blk_loadVar hT hb3 rfl, rfl, rfl⟩)))) ⟨by rw [e]; rfl, (hk1.tr hk2).trB hk3 (by omega)⟩
  have hp' : parenB c = false := by simpa using hp
  have hpn : c.toNat ≠ 40 ∧ c.toNat ≠ 41 := by
    rw [paren_n] at hp'
    simpa using hp'
  obtain ⟨hp1, hp2⟩ := hpn
  (repeat (first | refine pl_pure hT rfl rfl rfl ?_ | refine pl_nil ?_ | refine rn_seq ?_ | refine rn_plain ?_ | refine rn_block ?_ | refine rn_inBlock ?_ | refine rn_skip ?_ | refine rn_true rfl ?_ | refine rn_false rfl ?_ | refine rn_exit rfl ?_ | refine pl_not rfl rfl ?_ | refine pl_val _ rfl rfl (val_load1 hT rfl rfl rfl (Blk.cell (by assumption) (by rfl))) ?_ | refine pl_yes rfl rfl rfl rfl rfl (by first | (simp only [cmpP]; omega) | (simp [cmpP]; done) | (simp [cmpP]; omega)) ?_ | refine pl_no rfl rfl rfl rfl rfl rfl (by first | (simp only [cmpP]; omega) | (simp [cmpP]; done) | (simp [cmpP]; omega)) ?_))
  refine pl_op rfl rfl (opTo_call (fst := []) (cap := []) rfl rfl rfl rfl (by decide +kernel) ((isLetter_ret c w1).mono ?_))
  rintro v w2 ⟨rfl, rfl⟩
  cases hlet : letB c with
  | true =>
    have e := bit_word (r := r) hb hp' hlet
    (repeat (first | refine pl_pure hT rfl rfl rfl ?_ | refine pl_nil ?_ | refine rn_seq ?_ | refine rn_plain ?_ | refine rn_block ?_ | refine rn_inBlock ?_ | refine rn_skip ?_ | refine rn_true rfl ?_ | refine rn_false rfl ?_ | refine rn_exit rfl ?_ | refine pl_not rfl rfl ?_))
    refine pl_op rfl rfl (opTo_call (fst := []) (cap := []) rfl rfl rfl rfl (by decide +kernel) ((run_ret 57 letB (by decide +kernel) isLetter_ret (c :: r) hl w2).mono ?_))
    rintro v w3 ⟨rfl, rfl⟩
    refine pl_val _ rfl rfl (val_to (c :: r) ((c :: r).takeWhile letB).length (by decide +kernel) rfl rfl rfl rfl (while_le _ _) w3) ?_
    rw [take_while, List.takeWhile_cons_of_pos hlet]
    have hlen : (c :: r.takeWhile letB).length ≤ 1000000 := by
      have := while_le letB r
      simp only [List.length_cons] at hl ⊢
      omega
    refine pl_op rfl rfl (opTo_call (fst := []) (cap := []) rfl rfl rfl rfl (by decide +kernel) ((word_ret (c :: r.takeWhile letB) hlen w3).mono ?_))
    rintro v w4 ⟨rfl, hk4⟩
    have hb4 := hk4.blk hb1 (by simp)
    refine pl_op rfl rfl (opTo_storeN (tokC 0 (c :: r.takeWhile letB) false 0) rfl rfl rfl rfl size_tok hb4 (by simp [tokC]) (tokC_one _ _ _ _) ?_)
    intro w5 hs5 hk5 hb5
    rw [splice_whole (by rfl)] at hb5
    (repeat (first | refine pl_pure hT rfl rfl rfl ?_ | refine pl_nil ?_ | refine rn_seq ?_ | refine rn_plain ?_ | refine rn_block ?_ | refine rn_inBlock ?_ | refine rn_skip ?_ | refine rn_true rfl ?_ | refine rn_false rfl ?_ | refine rn_exit rfl ?_ | refine pl_not rfl rfl ?_))
    exact rn_ret Tryz.func31 (.inr (.inr (.inr (.inl ⟨_, _, _, _, _, _, rfl, rfl, blk_loadVar hT hb5 rfl, rfl, rfl⟩)))) ⟨by rw [e]; rfl, (hk1.tr hk4).trB hk5 (by omega)⟩
  | false =>
    (repeat (first | refine pl_pure hT rfl rfl rfl ?_ | refine pl_nil ?_ | refine rn_seq ?_ | refine rn_plain ?_ | refine rn_block ?_ | refine rn_inBlock ?_ | refine rn_skip ?_ | refine rn_true rfl ?_ | refine rn_false rfl ?_ | refine rn_exit rfl ?_ | refine pl_not rfl rfl ?_))
    refine pl_op rfl rfl (opTo_call (fst := []) (cap := []) rfl rfl rfl rfl (by decide +kernel) ((isDigit_ret c w2).mono ?_))
    rintro v w3 ⟨rfl, rfl⟩
    by_cases hd : (dig c || c == 45) = true
    · have e := bitV_num (r := r) hb hp' hlet hd
      have hd2 : dig c = true ∨ (dig c = false ∧ c.toNat = 45) := by
        rw [dash_n] at hd
        cases h : dig c with
        | true => exact .inl rfl
        | false => rw [h] at hd; exact .inr ⟨rfl, by simpa using hd⟩
      obtain ⟨cs, q, hcs, hform, hone⟩ := numV_form (c :: r.takeWhile dig)
      have hwl := while_le dig r
      have hlen : (c :: r.takeWhile dig).length ≤ 1000000 := by
        simp only [List.length_cons] at hl ⊢
        omega
      have hlr : r.length ≤ 1000000 := by
        simp only [List.length_cons] at hl
        omega
      rcases hd2 with hdc | ⟨hdc, hdash⟩
      all_goals
        rw [hdc]
        (repeat (first | refine pl_pure hT rfl rfl rfl ?_ | refine pl_nil ?_ | refine rn_seq ?_ | refine rn_plain ?_ | refine rn_block ?_ | refine rn_inBlock ?_ | refine rn_skip ?_ | refine rn_true rfl ?_ | refine rn_false rfl ?_ | refine rn_exit rfl ?_ | refine pl_not rfl rfl ?_ | refine pl_val _ rfl rfl (val_load1 hT rfl rfl rfl (Blk.cell (by assumption) (by rfl))) ?_ | refine pl_yes rfl rfl rfl rfl rfl (by first | (simp only [cmpP]; omega) | (simp [cmpP]; done) | (simp [cmpP]; omega)) ?_ | refine pl_no rfl rfl rfl rfl rfl rfl (by first | (simp only [cmpP]; omega) | (simp [cmpP]; done) | (simp [cmpP]; omega)) ?_))
        refine pl_val _ rfl rfl (val_from (c :: r) 1 (by decide +kernel) rfl rfl rfl rfl (by simp) w3) ?_
        refine pl_op rfl rfl (opTo_call (fst := []) (cap := []) rfl rfl rfl rfl (by decide +kernel) ((run_ret 59 dig (by decide +kernel) isDigit_ret r hlr w3).mono ?_))
        rintro v w4 ⟨rfl, rfl⟩
        refine pl_num ((((r.takeWhile dig).length + 1 : Nat) : Int)) rfl rfl rfl rfl rfl (by simp only [ariP]; omega) ?_
        refine pl_val _ rfl rfl (val_to (c :: r) ((r.takeWhile dig).length + 1) (by decide +kernel) rfl rfl rfl rfl (by simp only [List.length_cons]; omega) w4) ?_
        rw [List.take_succ_cons, take_while]
        refine pl_op rfl rfl (opTo_call (fst := []) (cap := []) rfl rfl rfl rfl (by decide +kernel) ((number_ret (c :: r.takeWhile dig) hlen (hw.keep hk1)).mono ?_))
        rintro v w5 ⟨rfl, hk5⟩
        have hb5 := hk5.blk hb1 (by simp)
        rw [hform]
        (repeat (first | refine pl_pure hT rfl rfl rfl ?_ | refine pl_nil ?_ | refine rn_seq ?_ | refine rn_plain ?_ | refine rn_block ?_ | refine rn_inBlock ?_ | refine rn_skip ?_ | refine rn_true rfl ?_ | refine rn_false rfl ?_ | refine rn_exit rfl ?_ | refine pl_not rfl rfl ?_))
        refine pl_op rfl rfl (opTo_storeN cs rfl rfl rfl rfl (by rw [hcs]; exact size_tok) hb5 (by simp [tokC, hcs]) hone ?_)
        intro w6 hs6 hk6 hb6
        rw [splice_whole (by rw [hcs]; rfl)] at hb6
        (repeat (first | refine pl_pure hT rfl rfl rfl ?_ | refine pl_nil ?_ | refine rn_seq ?_ | refine rn_plain ?_ | refine rn_block ?_ | refine rn_inBlock ?_ | refine rn_skip ?_ | refine rn_true rfl ?_ | refine rn_false rfl ?_ | refine rn_exit rfl ?_ | refine pl_not rfl rfl ?_))
        exact rn_ret Tryz.func31 (.inr (.inr (.inr (.inl ⟨_, _, _, _, _, _, rfl, rfl, blk_loadVar hT hb6 (by rw [hcs]; rfl), rfl, rfl⟩)))) ⟨by rw [e, hform]; rfl, (hk1.tr hk5).trB hk6 (by omega)⟩
    · have hd' : (dig c || c == 45) = false := by simpa using hd
      have e := bit_none (r := r) hb hp' hlet hd'
      have hdc : dig c = false := by
        cases h : dig c with
        | true => rw [h] at hd'; cases hd'
        | false => rfl
      have hdash : c.toNat ≠ 45 := by
        rw [hdc, dash_n] at hd'
        simpa using hd'
      rw [hdc]
      (repeat (first | refine pl_pure hT rfl rfl rfl ?_ | refine pl_nil ?_ | refine rn_seq ?_ | refine rn_plain ?_ | refine rn_block ?_ | refine rn_inBlock ?_ | refine rn_skip ?_ | refine rn_true rfl ?_ | refine rn_false rfl ?_ | refine rn_exit rfl ?_ | refine pl_not rfl rfl ?_ | refine pl_val _ rfl rfl (val_load1 hT rfl rfl rfl (Blk.cell (by assumption) (by rfl))) ?_ | refine pl_yes rfl rfl rfl rfl rfl (by first | (simp only [cmpP]; omega) | (simp [cmpP]; done) | (simp [cmpP]; omega)) ?_ | refine pl_no rfl rfl rfl rfl rfl rfl (by first | (simp only [cmpP]; omega) | (simp [cmpP]; done) | (simp [cmpP]; omega)) ?_))
      refine pl_val _ rfl rfl (val_build _ rfl rfl built_tok0 w3) ?_
      refine pl_op rfl rfl (opTo_storeN (tokC 0 [] false 0) rfl rfl rfl rfl size_tok hb1 (by simp [tokC]) (tokC_one _ _ _ _) ?_)
      intro w4 hs4 hk4 hb4
      rw [splice_whole (by rfl)] at hb4
      (repeat (first | refine pl_pure hT rfl rfl rfl ?_ | refine pl_nil ?_ | refine rn_seq ?_ | refine rn_plain ?_ | refine rn_block ?_ | refine rn_inBlock ?_ | refine rn_skip ?_ | refine rn_true rfl ?_ | refine rn_false rfl ?_ | refine rn_exit rfl ?_ | refine pl_not rfl rfl ?_))
      exact rn_ret Tryz.func31 (.inr (.inr (.inr (.inl ⟨_, _, _, _, _, _, rfl, rfl, blk_loadVar hT hb4 rfl, rfl, rfl⟩)))) ⟨by rw [e]; rfl, hk1.trB hk4 (by omega)⟩
end E
end Go.Proofs.YthbkcadiejfgaacGreatDoor

/- Contract of Scan. -/
namespace Go.Proofs.YthbkcadiejfgaacGreatDoor
set_option maxRecDepth 20000
set_option maxHeartbeats 4000000
namespace E
open Go.Proofs

theorem zero_fault : ((Tryz.prog.info? 28).bind (·.zero)).map (·.cells) = some [Value.int .i64 0, .int .i64 0].toArray := by kernel_rfl
theorem built_fault (a b : Int) : Tryz.prog.built 28 [(0, .int .i64 a), (1, .int .i64 b)] = some [Value.int .i64 a, .int .i64 b].toArray := by kernel_rfl
theorem built_fault0 : Tryz.prog.built 28 [] = some [Value.int .i64 0, .int .i64 0].toArray := by kernel_rfl
theorem size_fault : sizeOk Tryz.prog 28 2 = true := by kernel_rfl
theorem one_fault (a b : Int) : ∀ u ∈ [Value.int .i64 a, .int .i64 b], u.oneCell' = true := by
  intro u hu
  simp only [List.mem_cons, List.not_mem_nil, or_false] at hu
  rcases hu with rfl | rfl <;> rfl
theorem slice_tok (a b c d : Value) : sliceCells Tryz.prog 44 1 [(0, .agg #[a, b, c, d])] = some (71, #[a, b, c, d]) := by kernel_rfl

theorem app_tok {w0 w w' : World} {e size ln m g : Nat} {v : Value} {xs : List Value} (hk : Keep [] w0 w) (ho : Own w w0.heap.size e size v ln xs)
    (hor : (v.ownBlock = some g ∧ ln + m ≤ capOf v ∧ Keep [g] w w') ∨ (g = w.heap.size ∧ Keep [] w w' ∧ w'.heap.size = w.heap.size + 1)) : Keep [] w0 w' := by
  rcases hor with ⟨h1, _, h2⟩ | ⟨_, h2, _⟩
  · exact hk.trB h2 (ho.lt g h1).1
  · exact hk.tr h2
theorem app_blk {w w' : World} {ln m g b : Nat} {v : Value} {L : List Value} {t : TypeId} (hb : Blk w b L t) (hne : ∀ k, v.ownBlock = some k → b ≠ k)
    (hor : (v.ownBlock = some g ∧ ln + m ≤ capOf v ∧ Keep [g] w w') ∨ (g = w.heap.size ∧ Keep [] w w' ∧ w'.heap.size = w.heap.size + 1)) : Blk w' b L t := by
  rcases hor with ⟨h1, _, h2⟩ | ⟨_, h2, _⟩
  · exact h2.blk hb (by simp; exact hne g h1)
  · exact h2.blk hb (by simp)
/-- A block of another type is not the row's. -/
theorem own_ne {w : World} {B e size ln b : Nat} {v : Value} {xs L : List Value} {t : TypeId} (ho : Own w B e size v ln xs) (hb : Blk w b L t) (hne : t ≠ e) : ∀ k, v.ownBlock = some k → b ≠ k := by
  intro k hk
  rcases ho.2 with ⟨rfl, _⟩ | ⟨g, cap, cur, rfl, _, hg, _⟩
  · simp [Value.ownBlock] at hk
  · simp [Value.ownBlock] at hk
    subst hk
    exact hb.ne hg hne

theorem size_int : sizeOk Tryz.prog 3 1 = true := by kernel_rfl
theorem scan_ret (l : List UInt8) (hl : l.length ≤ 1000000) {w : World} (hw : Lw w) : Ret Tryz.prog 16 [.string (str l)] w fun x w' =>
    ∃ v, x = .tuple #[v, .agg #[.int .i64 (faultOf l).1, .int .i64 (faultOf l).2]] ∧ Own w' w.heap.size 71 4 v (toksOf l).length ((toksOf l).flatMap tokL) ∧ Keep [] w w' := by
  refine ret_of 46 Tryz.func16 rfl rfl (by simp) ?_
  (repeat (first | refine pl_pure hT rfl rfl rfl ?_ | refine pl_nil ?_ | refine rn_seq ?_ | refine rn_plain ?_ | refine rn_block ?_ | refine rn_inBlock ?_ | refine rn_skip ?_ | refine rn_true rfl ?_ | refine rn_false rfl ?_ | refine rn_exit rfl ?_ | refine pl_not rfl rfl ?_))
  refine pl_op rfl rfl (opTo_allocN _ rfl zero_fault ?_)
  intro w1 b hb0 hs1 hk1 hb1
  (repeat (first | refine pl_pure hT rfl rfl rfl ?_ | refine pl_nil ?_ | refine rn_seq ?_ | refine rn_plain ?_ | refine rn_block ?_ | refine rn_inBlock ?_ | refine rn_skip ?_ | refine rn_true rfl ?_ | refine rn_false rfl ?_ | refine rn_exit rfl ?_ | refine pl_not rfl rfl ?_))
  refine pl_val _ rfl rfl (val_len l (by decide +kernel) rfl rfl w1) ?_
  by_cases hgt : 6000 < l.length
  · refine pl_yes rfl rfl rfl rfl rfl (by first | (simp only [cmpP]; omega) | (simp [cmpP]; done) | (simp [cmpP]; omega)) ?_
    (repeat (first | refine pl_pure hT rfl rfl rfl ?_ | refine pl_nil ?_ | refine rn_seq ?_ | refine rn_plain ?_ | refine rn_block ?_ | refine rn_inBlock ?_ | refine rn_skip ?_ | refine rn_true rfl ?_ | refine rn_false rfl ?_ | refine rn_exit rfl ?_ | refine pl_not rfl rfl ?_))
    refine pl_val _ rfl rfl (val_build _ rfl rfl (built_fault 3 6000) w1) ?_
    (repeat (first | refine pl_pure hT rfl rfl rfl ?_ | refine pl_nil ?_ | refine rn_seq ?_ | refine rn_plain ?_ | refine rn_block ?_ | refine rn_inBlock ?_ | refine rn_skip ?_ | refine rn_true rfl ?_ | refine rn_false rfl ?_ | refine rn_exit rfl ?_ | refine pl_not rfl rfl ?_))
    refine pl_op rfl rfl (opTo_storeN [.int .i64 3, .int .i64 6000] rfl rfl rfl rfl size_fault hb1 (by simp) (one_fault _ _) ?_)
    intro w2 hs2 hk2 hb2
    rw [splice_whole (by rfl)] at hb2
    (repeat (first | refine pl_pure hT rfl rfl rfl ?_ | refine pl_nil ?_ | refine rn_seq ?_ | refine rn_plain ?_ | refine rn_block ?_ | refine rn_inBlock ?_ | refine rn_skip ?_ | refine rn_true rfl ?_ | refine rn_false rfl ?_ | refine rn_exit rfl ?_ | refine pl_not rfl rfl ?_))
    refine rn_retTC Tryz.func16 rfl rfl rfl (blk_loadVar hT hb2 rfl) ⟨.slice none 0 0, ?_, ?_, hk1.trB hk2 (by omega)⟩
    · unfold faultOf
      rw [if_pos hgt]
    · unfold toksOf
      rw [if_pos hgt]
      exact Own.nil _ _ _ _
  refine pl_no rfl rfl rfl rfl rfl rfl (by first | (simp only [cmpP]; omega) | (simp [cmpP]; done) | (simp [cmpP]; omega)) ?_
  (repeat (first | refine pl_pure hT rfl rfl rfl ?_ | refine pl_nil ?_ | refine rn_seq ?_ | refine rn_plain ?_ | refine rn_block ?_ | refine rn_inBlock ?_ | refine rn_skip ?_ | refine rn_true rfl ?_ | refine rn_false rfl ?_ | refine rn_exit rfl ?_ | refine pl_not rfl rfl ?_))
  refine rn_ind (fun m σ w' => ∃ (i : Nat) (acc : List Tok) (v : Value), i ≤ l.length ∧ m = l.length - i ∧ σ = [(0, .string (str l)), (3, .pointer (some ⟨b, 0, none⟩)), (4, v), (5, .int .i64 (i : Nat))] ∧ acc.length ≤ i ∧
    putT acc (toks l.length i (l.drop i)) = scanOf l ∧ Own w' w.heap.size 71 4 v acc.length (acc.flatMap tokL) ∧ Blk w' b [.int .i64 0, .int .i64 0] 28 ∧ Keep [] w w') l.length _ ?_
    ⟨0, [], _, by omega, by omega, rfl, by simp, by rw [putT_nil]; rfl, Own.nil _ _ _ _, hb1, hk1⟩ ?_
  · exact ⟨rfl, rfl, rfl, rfl, trivial⟩
  rintro m σ w2 ih ⟨i, acc, v, hi, rfl, rfl, hacc, hput, hown, hb2, hk2⟩
  (repeat (first | refine pl_pure hT rfl rfl rfl ?_ | refine pl_nil ?_ | refine rn_seq ?_ | refine rn_plain ?_ | refine rn_block ?_ | refine rn_inBlock ?_ | refine rn_skip ?_ | refine rn_true rfl ?_ | refine rn_false rfl ?_ | refine rn_exit rfl ?_ | refine pl_not rfl rfl ?_))
  refine pl_val _ rfl rfl (val_len l (by decide +kernel) rfl rfl w2) ?_
  by_cases hlt : i < l.length
  · obtain ⟨c, r, hdrop, hget, hdr⟩ := drop_at hlt
    have hlen : (c :: r).length ≤ l.length := by rw [← hdrop, List.length_drop]; omega
    refine pl_yes rfl rfl rfl rfl rfl (by first | (simp only [cmpP]; omega) | (simp [cmpP]; done) | (simp [cmpP]; omega)) ?_
    (repeat (first | refine pl_pure hT rfl rfl rfl ?_ | refine pl_nil ?_ | refine rn_seq ?_ | refine rn_plain ?_ | refine rn_block ?_ | refine rn_inBlock ?_ | refine rn_skip ?_ | refine rn_true rfl ?_ | refine rn_false rfl ?_ | refine rn_exit rfl ?_ | refine pl_not rfl rfl ?_))
    refine pl_val _ rfl rfl (val_byte l i c (by decide +kernel) rfl rfl rfl rfl hget w2) ?_
    refine pl_op rfl rfl (opTo_call (fst := []) (cap := []) rfl rfl rfl rfl (by decide +kernel) ((isBlank_ret c w2).mono ?_))
    rintro x w3 ⟨rfl, rfl⟩
    cases hbl : blankB c with
    | true =>
      (repeat (first | refine pl_pure hT rfl rfl rfl ?_ | refine pl_nil ?_ | refine rn_seq ?_ | refine rn_plain ?_ | refine rn_block ?_ | refine rn_inBlock ?_ | refine rn_skip ?_ | refine rn_true rfl ?_ | refine rn_false rfl ?_ | refine rn_exit rfl ?_ | refine pl_not rfl rfl ?_))
      refine pl_num (((i + 1 : Nat) : Int)) rfl rfl rfl rfl rfl (by simp only [ariP]; omega) ?_
      (repeat (first | refine pl_pure hT rfl rfl rfl ?_ | refine pl_nil ?_ | refine rn_seq ?_ | refine rn_plain ?_ | refine rn_block ?_ | refine rn_inBlock ?_ | refine rn_skip ?_ | refine rn_true rfl ?_ | refine rn_false rfl ?_ | refine rn_exit rfl ?_ | refine pl_not rfl rfl ?_))
      refine rn_sub ?_ (ih _ _ _ ?_ ⟨i + 1, acc, v, hlt, rfl, rfl, by omega, ?_, hown, hb2, hk2⟩)
      · exact ⟨rfl, rfl, rfl, rfl, trivial⟩
      · omega
      · rw [hdrop, toks_skip (bit_blank c r hbl) hlen] at hput
        rw [hdr]
        exact hput
    | false =>
      (repeat (first | refine pl_pure hT rfl rfl rfl ?_ | refine pl_nil ?_ | refine rn_seq ?_ | refine rn_plain ?_ | refine rn_block ?_ | refine rn_inBlock ?_ | refine rn_skip ?_ | refine rn_true rfl ?_ | refine rn_false rfl ?_ | refine rn_exit rfl ?_ | refine pl_not rfl rfl ?_))
      refine pl_val _ rfl rfl (val_from l i (by decide +kernel) rfl rfl rfl rfl hi w3) ?_
      rw [hdrop]
      refine pl_op rfl rfl (opTo_call (fst := []) (cap := []) rfl rfl rfl rfl (by decide +kernel) ((first_ret c r hbl (by omega) (hw.keep hk2)).mono ?_))
      rintro x w4 ⟨rfl, hk4⟩
      have hb4 := hk4.blk hb2 (by simp)
      have hown4 := hown.keep hk4 (by simp)
      have hk04 := hk2.tr hk4
      cases hbit : bit c r with
      | skip => exact absurd hbit (bit_not_skip hbl)
      | bad =>
        (repeat (first | refine pl_pure hT rfl rfl rfl ?_ | refine pl_nil ?_ | refine rn_seq ?_ | refine rn_plain ?_ | refine rn_block ?_ | refine rn_inBlock ?_ | refine rn_skip ?_ | refine rn_true rfl ?_ | refine rn_false rfl ?_ | refine rn_exit rfl ?_ | refine pl_not rfl rfl ?_))
        refine pl_op rfl rfl (opTo_allocN _ rfl zero_tok ?_)
        intro w5 b6 hb60 hs5 hk5 hb5
        refine pl_op rfl rfl (opTo_storeN (tokC 0 [] false 0) rfl rfl rfl rfl size_tok hb5 (by simp [tokC]) (tokC_one _ _ _ _) ?_)
        intro w6 hs6 hk6 hb6
        have hk06 : Keep [] w w6 := (hk04.tr hk5).trB hk6 (by have := hk04.size; omega)
        have hbF : Blk w6 b [.int .i64 0, .int .i64 0] 28 := hk6.blk (hk5.blk hb4 (by simp)) (by simp; exact (hk5.blk hb4 (by simp)).ne hb5 (by decide))
        (repeat (first | refine pl_pure hT rfl rfl rfl ?_ | refine pl_nil ?_ | refine rn_seq ?_ | refine rn_plain ?_ | refine rn_block ?_ | refine rn_inBlock ?_ | refine rn_skip ?_ | refine rn_true rfl ?_ | refine rn_false rfl ?_ | refine rn_exit rfl ?_ | refine pl_not rfl rfl ?_))
        refine pl_val _ rfl rfl (val_build _ rfl rfl (built_fault 7 ((i : Nat) : Int)) w6) ?_
        (repeat (first | refine pl_pure hT rfl rfl rfl ?_ | refine pl_nil ?_ | refine rn_seq ?_ | refine rn_plain ?_ | refine rn_block ?_ | refine rn_inBlock ?_ | refine rn_skip ?_ | refine rn_true rfl ?_ | refine rn_false rfl ?_ | refine rn_exit rfl ?_ | refine pl_not rfl rfl ?_))
        refine pl_op rfl rfl (opTo_storeN [.int .i64 7, .int .i64 ((i : Nat) : Int)] rfl rfl rfl rfl size_fault hbF (by simp) (one_fault _ _) ?_)
        intro w7 hs7 hk7 hb7
        rw [splice_whole (by rfl)] at hb7
        (repeat (first | refine pl_pure hT rfl rfl rfl ?_ | refine pl_nil ?_ | refine rn_seq ?_ | refine rn_plain ?_ | refine rn_block ?_ | refine rn_inBlock ?_ | refine rn_skip ?_ | refine rn_true rfl ?_ | refine rn_false rfl ?_ | refine rn_exit rfl ?_ | refine pl_not rfl rfl ?_))
        rw [hdrop, toks_bad hbit hlen] at hput
        obtain ⟨e1, e2⟩ := faultOf_error hgt hput.symm
        refine rn_retTC Tryz.func16 rfl rfl rfl (blk_loadVar hT hb7 rfl) ⟨.slice none 0 0, ?_, ?_, hk06.trB hk7 (by omega)⟩
        · rw [e1]
        · rw [e2]
          exact Own.nil _ _ _ _
      | tok t q z =>
        have htl := bit_len hbit
        have hadd : i + t.length ≤ l.length := by
          have := hdrop ▸ List.length_drop (i := i) (l := l)
          omega
        (repeat (first | refine pl_pure hT rfl rfl rfl ?_ | refine pl_nil ?_ | refine rn_seq ?_ | refine rn_plain ?_ | refine rn_block ?_ | refine rn_inBlock ?_ | refine rn_skip ?_ | refine rn_true rfl ?_ | refine rn_false rfl ?_ | refine rn_exit rfl ?_ | refine pl_not rfl rfl ?_))
        refine pl_op rfl rfl (opTo_allocN _ rfl zero_tok ?_)
        intro w5 b6 hb60 hs5 hk5 hb5
        refine pl_op rfl rfl (opTo_storeN (tokC 0 t q z) rfl rfl rfl rfl size_tok hb5 (by simp [tokC]) (tokC_one _ _ _ _) ?_)
        intro w6 hs6 hk6 hb6
        rw [splice_whole (by rfl)] at hb6
        (repeat (first | refine pl_pure hT rfl rfl rfl ?_ | refine pl_nil ?_ | refine rn_seq ?_ | refine rn_plain ?_ | refine rn_block ?_ | refine rn_inBlock ?_ | refine rn_skip ?_ | refine rn_true rfl ?_ | refine rn_false rfl ?_ | refine rn_exit rfl ?_ | refine pl_not rfl rfl ?_))
        refine pl_op rfl rfl (opTo_storeN [.int .i64 ((i : Nat) : Int)] rfl rfl rfl rfl size_int hb6 (by simp [tokC]) (by simp; rfl) ?_)
        intro w7 hs7 hk7 hb7
        have hsp : splice (tokC 0 t q z) 0 [.int .i64 ((i : Nat) : Int)] = tokC ((i : Nat) : Int) t q z := rfl
        rw [hsp] at hb7
        have hk05 : Keep [] w w5 := hk04.tr hk5
        have hk06 : Keep [] w w6 := hk05.trB hk6 (by have := hk04.size; omega)
        have hk07 : Keep [] w w7 := hk06.trB hk7 (by have := hk04.size; omega)
        have hne6 : ∀ k, v.ownBlock = some k → k ≠ b6 := fun k hk => by have := (hown4.lt k hk).2; omega
        have hown5 := hown4.keep hk5 (by simp)
        have hown6 := hown5.keep hk6 (by intro k hk; simp; exact hne6 k hk)
        have hown7 := hown6.keep hk7 (by intro k hk; simp; exact hne6 k hk)
        have hF5 := hk5.blk hb4 (by simp)
        have hF6 := hk6.blk hF5 (by simp; exact hF5.ne hb5 (by decide))
        have hF7 := hk7.blk hF6 (by simp; exact hF6.ne hb6 (by decide))
        (repeat (first | refine pl_pure hT rfl rfl rfl ?_ | refine pl_nil ?_ | refine rn_seq ?_ | refine rn_plain ?_ | refine rn_block ?_ | refine rn_inBlock ?_ | refine rn_skip ?_ | refine rn_true rfl ?_ | refine rn_false rfl ?_ | refine rn_exit rfl ?_ | refine pl_not rfl rfl ?_))
        refine pl_val _ rfl rfl (val_load (tokC ((i : Nat) : Int) t q z) hT rfl rfl rfl (hb7.range (by rfl))) ?_
        refine pl_op rfl rfl (opTo_sliceN _ _ rfl rfl (slice_tok _ _ _ _) ?_)
        intro w8 g8 hg8 hs8 hk8 hb8
        have hown8 := hown7.keep hk8 (by simp)
        have hF8 := hk8.blk hF7 (by simp)
        have hb68 := hk8.blk hb7 (by simp)
        have hk08 := hk07.tr hk8
        refine pl_op rfl rfl (opTo_app w.heap.size 71 4 40 (acc.flatMap tokL) (tokC ((i : Nat) : Int) t q z) rfl rfl rfl (by decide +kernel) hown8 (hb8.range (by rfl)) rfl (tokC_one _ _ _ _) (by decide) (by simp only [maxLen]; omega) (by omega) hk08.size ?_)
        intro g9 cap9 w9 hown9 hor9
        have hk09 := app_tok hk08 hown8 hor9
        have hF9 := app_blk hF8 (own_ne hown8 hF8 (by decide)) hor9
        have hb69 := app_blk hb68 (fun k hk => (hne6 k hk).symm) hor9
        (repeat (first | refine pl_pure hT rfl rfl rfl ?_ | refine pl_nil ?_ | refine rn_seq ?_ | refine rn_plain ?_ | refine rn_block ?_ | refine rn_inBlock ?_ | refine rn_skip ?_ | refine rn_true rfl ?_ | refine rn_false rfl ?_ | refine rn_exit rfl ?_ | refine pl_not rfl rfl ?_))
        refine pl_val _ rfl rfl (val_load1 hT rfl rfl rfl (hb69.cell rfl)) ?_
        refine pl_val _ rfl rfl (val_len t (by decide +kernel) rfl rfl w9) ?_
        refine pl_num (((i + t.length : Nat) : Int)) rfl rfl rfl rfl rfl (by simp only [ariP]; omega) ?_
        (repeat (first | refine pl_pure hT rfl rfl rfl ?_ | refine pl_nil ?_ | refine rn_seq ?_ | refine rn_plain ?_ | refine rn_block ?_ | refine rn_inBlock ?_ | refine rn_skip ?_ | refine rn_true rfl ?_ | refine rn_false rfl ?_ | refine rn_exit rfl ?_ | refine pl_not rfl rfl ?_))
        refine rn_sub ?_ (ih _ _ _ ?_ ⟨i + t.length, acc ++ [⟨i, t, q, z⟩], .slice (some ⟨g9, 0, none⟩) (acc.length + 1) cap9, hadd, rfl, rfl, ?_, ?_, ?_, hF9, hk09⟩)
        · exact ⟨rfl, rfl, rfl, rfl, trivial⟩
        · omega
        · simp only [List.length_append, List.length_cons, List.length_nil]; omega
        · rw [hdrop, putT_tok acc hbit hlen, ← hdrop, List.drop_drop] at hput
          exact hput
        · have e1 : (acc ++ [(⟨i, t, q, z⟩ : Tok)]).length = acc.length + 1 := by simp
          have e2 : (acc ++ [(⟨i, t, q, z⟩ : Tok)]).flatMap tokL = acc.flatMap tokL ++ tokC ((i : Nat) : Int) t q z := by
            rw [List.flatMap_append]
            rfl
          rw [e1, e2]
          exact hown9
  · refine pl_no rfl rfl rfl rfl rfl rfl (by first | (simp only [cmpP]; omega) | (simp [cmpP]; done) | (simp [cmpP]; omega)) ?_
    (repeat (first | refine pl_pure hT rfl rfl rfl ?_ | refine pl_nil ?_ | refine rn_seq ?_ | refine rn_plain ?_ | refine rn_block ?_ | refine rn_inBlock ?_ | refine rn_skip ?_ | refine rn_true rfl ?_ | refine rn_false rfl ?_ | refine rn_exit rfl ?_ | refine pl_not rfl rfl ?_))
    refine pl_val _ rfl rfl (val_build _ rfl rfl built_fault0 w2) ?_
    (repeat (first | refine pl_pure hT rfl rfl rfl ?_ | refine pl_nil ?_ | refine rn_seq ?_ | refine rn_plain ?_ | refine rn_block ?_ | refine rn_inBlock ?_ | refine rn_skip ?_ | refine rn_true rfl ?_ | refine rn_false rfl ?_ | refine rn_exit rfl ?_ | refine pl_not rfl rfl ?_))
    refine pl_op rfl rfl (opTo_storeN [.int .i64 0, .int .i64 0] rfl rfl rfl rfl size_fault hb2 (by simp) (one_fault _ _) ?_)
    intro w3 hs3 hk3 hb3
    rw [splice_whole (by rfl)] at hb3
    (repeat (first | refine pl_pure hT rfl rfl rfl ?_ | refine pl_nil ?_ | refine rn_seq ?_ | refine rn_plain ?_ | refine rn_block ?_ | refine rn_inBlock ?_ | refine rn_skip ?_ | refine rn_true rfl ?_ | refine rn_false rfl ?_ | refine rn_exit rfl ?_ | refine pl_not rfl rfl ?_))
    have hi' : i = l.length := by omega
    have hput2 : scanOf l = .ok acc := by
      rw [← hput, hi', List.drop_length]
      have : toks l.length l.length [] = .ok [] := by cases l.length <;> rfl
      rw [this]
      show Except.ok (acc ++ []) = _
      rw [List.append_nil]
    obtain ⟨e1, e2⟩ := faultOf_ok hgt hput2
    refine rn_retTC Tryz.func16 rfl rfl rfl (blk_loadVar hT hb3 rfl) ⟨v, ?_, ?_, hk2.trB hk3 (by omega)⟩
    · rw [e1]
    · rw [e2]
      exact hown.keep hk3 (by intro k hk; simp; exact fun h => own_ne hown hb2 (by decide) k hk h.symm)
end E
end Go.Proofs.YthbkcadiejfgaacGreatDoor

/- The laws' first look at package parse. -/
namespace Go.Proofs.YthbkcadiejfgaacGreatDoor
set_option maxRecDepth 20000
set_option maxHeartbeats 4000000
namespace E
open Go.Proofs

theorem parseBegun_ret (hC : PkC) {w : World} (hw : Lw w) : Ret Tryz.prog 5 [] w fun r w' => r = .bool true ∧ Keep [] w w' := by
  refine ret_of 48 Tryz.func5 rfl rfl (by simp) ?_
  (repeat (first | refine pl_pure hT rfl rfl rfl ?_ | refine pl_nil ?_ | refine rn_seq ?_ | refine rn_plain ?_ | refine rn_block ?_ | refine rn_inBlock ?_ | refine rn_skip ?_ | refine rn_true rfl ?_ | refine rn_false rfl ?_ | refine rn_exit rfl ?_ | refine pl_not rfl rfl ?_))
  refine pl_op rfl rfl (opTo_call (fst := []) (cap := []) rfl rfl rfl rfl (by decide +kernel) ((hC.parse begunT (by decide) hw).mono ?_))
  rintro r w1 ⟨⟨x, F, rfl, hprog, _, hF⟩, hk1⟩
  rw [begun_parse] at hprog ⊢
  obtain ⟨vv, bv, rfl, hv, hb⟩ := hprog
  obtain ⟨av, capv, rfl⟩ := hv.form
  obtain ⟨bb, q, capb, ce, cf, bv', ov', rfl, hst⟩ := hb.stmtAt (i := 0) (show (prgOf (.ok begunP)).2[0]? = some _ from rfl)
  have hin : In F w1 := fun c hc => (hF c hc).2
  (repeat (first | refine pl_pure hT rfl rfl rfl ?_ | refine pl_nil ?_ | refine rn_seq ?_ | refine rn_plain ?_ | refine rn_block ?_ | refine rn_inBlock ?_ | refine rn_skip ?_ | refine rn_true rfl ?_ | refine rn_false rfl ?_ | refine rn_exit rfl ?_ | refine pl_not rfl rfl ?_))
  refine pl_op rfl rfl (opTo_allocN _ rfl zero_pr ?_)
  intro w2 b1 hb10 hs2 hk2 hp2
  refine pl_op rfl rfl (opTo_allocN _ rfl zero_fault ?_)
  intro w3 b2 hb20 hs3 hk3 hf3
  have hp3 := hk3.blk hp2 (by simp)
  (repeat (first | refine pl_pure hT rfl rfl rfl ?_ | refine pl_nil ?_ | refine rn_seq ?_ | refine rn_plain ?_ | refine rn_block ?_ | refine rn_inBlock ?_ | refine rn_skip ?_ | refine rn_true rfl ?_ | refine rn_false rfl ?_ | refine rn_exit rfl ?_ | refine pl_not rfl rfl ?_))
  refine pl_op rfl rfl (opTo_storeN [.slice av 1 capv, .slice (some ⟨bb, q, none⟩) 1 capb] rfl rfl rfl rfl size_pr hp3 (by simp [pz]) (one_pr _ _ _ _ _ _) ?_)
  intro w4 hs4 hk4 hp4
  rw [splice_whole (by rfl)] at hp4
  have hf4 := hk4.blk hf3 (by simp; omega)
  refine pl_op rfl rfl (opTo_storeN [.int .i64 0, .int .i64 0] rfl rfl rfl rfl size_fault hf4 (by simp) (one_fault _ _) ?_)
  intro w5 hs5 hk5 hf5
  rw [splice_whole (by rfl)] at hf5
  have hp5 := hk5.blk hp4 (by simp; omega)
  have hk15 : Keep [] w1 w5 := ((hk2.tr hk3).trB hk4 (by omega)).trB hk5 (by omega)
  have hst5 := hst.keep hk15 hin.stays
  obtain ⟨lv, rfl, hl⟩ := hst5.he.inv
  obtain ⟨ba, bc, rfl⟩ := hst5.hb.form
  have hk05 := hk1.tr hk15
  (repeat (first | refine pl_pure hT rfl rfl rfl ?_ | refine pl_nil ?_ | refine rn_seq ?_ | refine rn_plain ?_ | refine rn_block ?_ | refine rn_inBlock ?_ | refine rn_skip ?_ | refine rn_true rfl ?_ | refine rn_false rfl ?_ | refine rn_exit rfl ?_ | refine pl_not rfl rfl ?_))
  refine pl_val _ rfl rfl (val_load1 hT rfl rfl rfl (hf5.cell rfl)) ?_
  refine pl_yes rfl rfl rfl rfl rfl (by first | (simp only [cmpP]; omega) | (simp [cmpP]; done) | (simp [cmpP]; omega)) ?_
  (repeat (first | refine pl_pure hT rfl rfl rfl ?_ | refine pl_nil ?_ | refine rn_seq ?_ | refine rn_plain ?_ | refine rn_block ?_ | refine rn_inBlock ?_ | refine rn_skip ?_ | refine rn_true rfl ?_ | refine rn_false rfl ?_ | refine rn_exit rfl ?_ | refine pl_not rfl rfl ?_))
  refine pl_val _ rfl rfl (val_load1 hT rfl rfl rfl (hp5.cell rfl)) ?_
  (repeat (first | refine pl_pure hT rfl rfl rfl ?_ | refine pl_nil ?_ | refine rn_seq ?_ | refine rn_plain ?_ | refine rn_block ?_ | refine rn_inBlock ?_ | refine rn_skip ?_ | refine rn_true rfl ?_ | refine rn_false rfl ?_ | refine rn_exit rfl ?_ | refine pl_not rfl rfl ?_))
  refine pl_yes rfl rfl rfl rfl rfl (by first | (simp only [cmpP]; omega) | (simp [cmpP]; done) | (simp [cmpP]; omega)) ?_
  (repeat (first | refine pl_pure hT rfl rfl rfl ?_ | refine pl_nil ?_ | refine rn_seq ?_ | refine rn_plain ?_ | refine rn_block ?_ | refine rn_inBlock ?_ | refine rn_skip ?_ | refine rn_true rfl ?_ | refine rn_false rfl ?_ | refine rn_exit rfl ?_ | refine pl_not rfl rfl ?_))
  refine pl_val _ rfl rfl (val_load1 hT rfl rfl rfl (hp5.cell rfl)) ?_
  (repeat (first | refine pl_pure hT rfl rfl rfl ?_ | refine pl_nil ?_ | refine rn_seq ?_ | refine rn_plain ?_ | refine rn_block ?_ | refine rn_inBlock ?_ | refine rn_skip ?_ | refine rn_true rfl ?_ | refine rn_false rfl ?_ | refine rn_exit rfl ?_ | refine pl_not rfl rfl ?_))
  refine pl_yes rfl rfl rfl rfl rfl (by first | (simp only [cmpP]; omega) | (simp [cmpP]; done) | (simp [cmpP]; omega)) ?_
  (repeat (first | refine pl_pure hT rfl rfl rfl ?_ | refine pl_nil ?_ | refine rn_seq ?_ | refine rn_plain ?_ | refine rn_block ?_ | refine rn_inBlock ?_ | refine rn_skip ?_ | refine rn_true rfl ?_ | refine rn_false rfl ?_ | refine rn_exit rfl ?_ | refine pl_not rfl rfl ?_))
  refine pl_val _ rfl rfl (val_load1 hT rfl rfl rfl (hp5.cell rfl)) ?_
  refine pl_val _ rfl rfl (val_index 0 hT rfl rfl rfl rfl rfl (by decide) w5) ?_
  (repeat (first | refine pl_pure hT rfl rfl rfl ?_ | refine pl_nil ?_ | refine rn_seq ?_ | refine rn_plain ?_ | refine rn_block ?_ | refine rn_inBlock ?_ | refine rn_skip ?_ | refine rn_true rfl ?_ | refine rn_false rfl ?_ | refine rn_exit rfl ?_ | refine pl_not rfl rfl ?_))
  refine pl_val _ rfl rfl (val_load1 hT rfl rfl rfl (hst5.cb)) ?_
  (repeat (first | refine pl_pure hT rfl rfl rfl ?_ | refine pl_nil ?_ | refine rn_seq ?_ | refine rn_plain ?_ | refine rn_block ?_ | refine rn_inBlock ?_ | refine rn_skip ?_ | refine rn_true rfl ?_ | refine rn_false rfl ?_ | refine rn_exit rfl ?_ | refine pl_not rfl rfl ?_))
  refine pl_yes rfl rfl rfl rfl rfl (by first | (simp only [cmpP]; omega) | (simp [cmpP]; done) | (simp [cmpP]; omega)) ?_
  (repeat (first | refine pl_pure hT rfl rfl rfl ?_ | refine pl_nil ?_ | refine rn_seq ?_ | refine rn_plain ?_ | refine rn_block ?_ | refine rn_inBlock ?_ | refine rn_skip ?_ | refine rn_true rfl ?_ | refine rn_false rfl ?_ | refine rn_exit rfl ?_ | refine pl_not rfl rfl ?_))
  refine pl_val _ rfl rfl (val_load1 hT rfl rfl rfl (hp5.cell rfl)) ?_
  refine pl_val _ rfl rfl (val_index 0 hT rfl rfl rfl rfl rfl (by decide) w5) ?_
  (repeat (first | refine pl_pure hT rfl rfl rfl ?_ | refine pl_nil ?_ | refine rn_seq ?_ | refine rn_plain ?_ | refine rn_block ?_ | refine rn_inBlock ?_ | refine rn_skip ?_ | refine rn_true rfl ?_ | refine rn_false rfl ?_ | refine rn_exit rfl ?_ | refine pl_not rfl rfl ?_))
  refine pl_val _ rfl rfl (val_load1 hT rfl rfl rfl (hst5.re 0 (.int .i64 7) rfl)) ?_
  refine pl_yes rfl rfl rfl rfl rfl (by first | (simp only [cmpP]; omega) | (simp [cmpP]; done) | (simp [cmpP]; omega)) ?_
  (repeat (first | refine pl_pure hT rfl rfl rfl ?_ | refine pl_nil ?_ | refine rn_seq ?_ | refine rn_plain ?_ | refine rn_block ?_ | refine rn_inBlock ?_ | refine rn_skip ?_ | refine rn_true rfl ?_ | refine rn_false rfl ?_ | refine rn_exit rfl ?_ | refine pl_not rfl rfl ?_))
  refine pl_op rfl rfl (opTo_call (fst := []) (cap := []) rfl rfl rfl rfl (by decide +kernel) ((hC.word 8 (hw.keep hk05)).mono ?_))
  rintro r w6 ⟨rfl, hk6⟩
  refine pl_val _ rfl rfl (val_eqStr (str (wordI 8)) (str [115, 97, 109, 101]) true rfl rfl rfl (by rw [str_toList, str_toList]; decide) w6) ?_
  (repeat (first | refine pl_pure hT rfl rfl rfl ?_ | refine pl_nil ?_ | refine rn_seq ?_ | refine rn_plain ?_ | refine rn_block ?_ | refine rn_inBlock ?_ | refine rn_skip ?_ | refine rn_true rfl ?_ | refine rn_false rfl ?_ | refine rn_exit rfl ?_ | refine pl_not rfl rfl ?_))
  refine pl_op rfl rfl (opTo_call (fst := []) (cap := []) rfl rfl rfl rfl (by decide +kernel) ((hC.verb 0 ((hw.keep hk05).keep hk6)).mono ?_))
  rintro r w7 ⟨rfl, hk7⟩
  refine pl_val _ rfl rfl (val_eqStr (str (verbI 0)) (str []) true rfl rfl rfl (by rw [str_toList, str_toList]; decide) w7) ?_
  (repeat (first | refine pl_pure hT rfl rfl rfl ?_ | refine pl_nil ?_ | refine rn_seq ?_ | refine rn_plain ?_ | refine rn_block ?_ | refine rn_inBlock ?_ | refine rn_skip ?_ | refine rn_true rfl ?_ | refine rn_false rfl ?_ | refine rn_exit rfl ?_ | refine pl_not rfl rfl ?_))
  exact rn_ret Tryz.func5 (.inl ⟨_, rfl, rfl⟩) ⟨rfl, (hk05.tr hk6).tr hk7⟩
end E
end Go.Proofs.YthbkcadiejfgaacGreatDoor

/- A fault's code is never 0. -/
namespace Go.Proofs.YthbkcadiejfgaacGreatDoor
set_option maxRecDepth 20000
set_option maxHeartbeats 4000000
namespace E
open Go.Proofs

def Eok {α : Type} (x : Except Flt α) : Prop := ∀ e, x = .error e → e.1 ≠ 0
section
variable {ts : List Tok} {fin : Nat}
theorem eok_ok {α : Type} (a : α) : Eok (.ok a : Except Flt α) := fun _ h => by cases h
theorem eok_bnd {α β : Type} {x : Except Flt α} {f : α → Except Flt β} (h1 : Eok x) (h2 : ∀ a, x = .ok a → Eok (f a)) : Eok (bnd x f) := by
  cases x with
  | error e =>
    intro e' he
    injection he with he
    subst he
    exact h1 _ rfl
  | ok a => exact h2 a rfl
theorem eok_wrong {α : Type} {code : Int} {i : Nat} (h : code ≠ 0) : Eok (.error (wrongAt ts fin code i) : Except Flt α) := by
  intro e he
  injection he with he
  subst he
  unfold wrongAt
  split
  · exact h
  · show (if code = 5 then 6 else code) ≠ 0
    split <;> omega
theorem eok_must (s : List UInt8) (i : Nat) : Eok (mustP ts fin s i) := by
  unfold mustP
  split
  · exact eok_ok _
  · exact eok_wrong (by decide)
theorem eok_num (i : Nat) : Eok (numP ts fin i) := by
  unfold numP
  split
  · split
    · exact eok_ok _
    · exact eok_wrong (by decide)
  · exact eok_wrong (by decide)
theorem eok_name (i : Nat) : Eok (nameP ts fin i) := by
  unfold nameP
  split
  · split
    · exact eok_ok _
    · exact eok_wrong (by decide)
  · exact eok_wrong (by decide)
theorem eok_var (vs : List VarT) (i : Nat) : Eok (varP ts fin vs i) := by
  unfold varP
  refine eok_bnd (eok_name _) fun p _ => ?_
  obtain ⟨s, j⟩ := p
  dsimp only
  split
  · exact eok_ok _
  · exact eok_wrong (by decide)
theorem eok_begin (of : Nat → List UInt8) (most i : Nat) : Eok (beginP ts fin of most i) := by
  unfold beginP
  refine eok_bnd (eok_must _ _) fun p _ => ?_
  split
  · exact eok_ok _
  · exact eok_wrong (by decide)
theorem eok_many {α : Type} {one : Nat → Except Flt (α × Nat)} (h1 : ∀ i, Eok (one i)) : ∀ m i, Eok (manyP one m i)
  | 0, _ => eok_ok _
  | m + 1, i => eok_bnd (h1 i) fun p _ => eok_bnd (eok_many h1 m p.2) fun _ _ => eok_ok _
theorem eok_until {α : Type} {st : Nat → Bool} {one : Nat → Except Flt (α × Nat)} (h1 : ∀ i, Eok (one i)) (h2 : ∀ i r, one i = .ok r → i < r.2 ∧ r.2 ≤ ts.length) : ∀ m i, i ≤ ts.length → ts.length < m + i → Eok (untilP st one m i)
  | 0, i, h, h' => by omega
  | m + 1, i, h, h' => by
    unfold untilP
    split
    · exact eok_ok _
    · refine eok_bnd (h1 i) fun p hp => eok_bnd (eok_until h1 h2 m p.2 ?_ ?_) fun _ _ => eok_ok _
      · exact (h2 i p hp).2
      · have := (h2 i p hp).1
        omega
theorem eok_expr (vs : List VarT) : ∀ f i, Eok (exprP ts fin vs f i)
  | 0, i => eok_wrong (by decide)
  | f + 1, i => by
    unfold exprP
    refine eok_bnd (eok_begin _ _ _) fun p _ => eok_bnd ?_ fun p2 _ => eok_bnd ?_ fun p3 _ => eok_bnd (eok_many (eok_expr vs f) _ _) fun p4 _ => eok_bnd (eok_must _ _) fun _ _ => eok_ok _
    · split
      · exact eok_num _
      · exact eok_ok _
    · split
      · exact eok_var _ _
      · exact eok_ok _
theorem eok_list {one : Nat → Except Flt (ST × Nat)} (h1 : ∀ i, Eok (one i)) (h2 : ∀ i r, one i = .ok r → i < r.2 ∧ r.2 ≤ ts.length) (i : Nat) : Eok (listP ts fin one i) := by
  unfold listP
  refine eok_bnd (eok_must _ _) fun j hj => eok_bnd (eok_until h1 h2 _ _ ?_ ?_) fun p _ => eok_bnd (eok_must _ _) fun _ _ => eok_ok _
  · have := mustP_ok hj
    omega
  · have := mustP_ok hj
    omega
theorem eok_stmt (vs : List VarT) : ∀ f i, Eok (stmtP ts fin vs f i)
  | 0, i => eok_wrong (by decide)
  | f + 1, i => by
    unfold stmtP
    refine eok_bnd (eok_begin _ _ _) fun p _ => eok_bnd ?_ fun p2 _ => eok_bnd ?_ fun p3 _ => eok_bnd ?_ fun p4 _ => eok_bnd ?_ fun p5 _ => eok_bnd ?_ fun p6 _ => eok_bnd (eok_must _ _) fun _ _ => eok_ok _
    · split
      · exact eok_var _ _
      · exact eok_ok _
    · split
      · exact eok_expr _ _ _
      · exact eok_ok _
    · split
      · exact eok_expr _ _ _
      · exact eok_ok _
    · split
      · exact eok_list (eok_stmt vs f) (stmtP_ok vs f) _
      · exact eok_ok _
    · split
      · exact eok_list (eok_stmt vs f) (stmtP_ok vs f) _
      · exact eok_ok _
theorem eok_let (i : Nat) : Eok (letP ts fin i) := by
  unfold letP
  exact eok_bnd (eok_name _) fun p _ => eok_bnd (eok_num _) fun _ _ => eok_ok _
theorem eok_parseT : Eok (parseT ts fin) := by
  unfold parseT readP
  refine eok_bnd (eok_bnd (eok_until eok_let (fun i r hr => letP_ok hr) _ _ (Nat.zero_le _) (by omega)) fun p hp => eok_bnd (eok_until (eok_stmt p.1 13) (stmtP_ok p.1 13) _ _ ?_ ?_) fun _ _ => eok_ok _) fun p _ => ?_
  · exact (untilP_ok (fun i r hr => letP_ok hr) _ _ _ (Nat.zero_le _) hp).2.1
  · have := (untilP_ok (fun i r hr => letP_ok hr) _ _ _ (Nat.zero_le _) hp).2.1
    omega
  · obtain ⟨vs, b⟩ := p
    dsimp only
    split
    · rename_i h
      intro e he
      injection he with he
      subst he
      exact h
    · exact eok_ok _
end
theorem parseOf_err {l : List UInt8} {e : Flt} (h : parseOf l = .error e) : e.1 ≠ 0 := by
  unfold parseOf at h
  split at h
  · rename_i h1
    injection h with h
    subst h
    exact h1
  · exact eok_parseT e h
end E
end Go.Proofs.YthbkcadiejfgaacGreatDoor

/- Plain mathematics of reading: how great what is read can be. -/
namespace Go.Proofs.YthbkcadiejfgaacGreatDoor
set_option maxRecDepth 20000
set_option maxHeartbeats 4000000
namespace E

section
variable {ts : List Tok} {fin : Nat}
theorem nameP_len {i : Nat} {r : List UInt8 × Nat} (h : nameP ts fin i = .ok r) : r.1.length ≤ 8 := by
  unfold nameP at h
  split at h
  · rename_i t ht
    split at h
    · rename_i hn
      injection h with h
      subst h
      simp only [nameB, Bool.and_eq_true, decide_eq_true_eq] at hn
      exact hn.2
    · cases h
  · cases h
theorem manyP_size {one : Nat → Except Flt (ET × Nat)} (h1 : ∀ i r, one i = .ok r → szE r.1 + i ≤ r.2) : ∀ (m i : Nat) (r : List ET × Nat), manyP one m i = .ok r → szEs r.1 + i ≤ r.2
  | 0, i, r, h => by injection h with h; subst h; simp [szEs]
  | m + 1, i, r, h => by
    obtain ⟨⟨t, j⟩, ha, hb⟩ := bnd_ok h
    obtain ⟨⟨r', k⟩, hc, hd⟩ := bnd_ok hb
    injection hd with hd
    subst hd
    have e1 := h1 _ _ ha
    have e2 := manyP_size h1 m j _ hc
    dsimp only at e1 e2 ⊢
    simp only [szEs]
    omega
theorem exprP_size (vs : List VarT) : ∀ (f i : Nat) (r : ET × Nat), exprP ts fin vs f i = .ok r → szE r.1 + i ≤ r.2
  | 0, _, _, h => by cases h
  | f + 1, i, r, h => by
    unfold exprP at h
    obtain ⟨⟨k, i1⟩, h1, h⟩ := bnd_ok h
    obtain ⟨⟨n, i2⟩, h2, h⟩ := bnd_ok h
    obtain ⟨⟨v, i3⟩, h3, h⟩ := bnd_ok h
    obtain ⟨⟨l, i4⟩, h4, h⟩ := bnd_ok h
    obtain ⟨i5, h5, h⟩ := bnd_ok h
    injection h with h
    subst h
    have e1 := beginP_ok h1
    dsimp only at e1
    have e2 : i1 ≤ i2 := by
      split at h2
      · have := numP_ok h2; dsimp only at this; omega
      · injection h2 with h2; injection h2 with _ h2; omega
    have e3 : i2 ≤ i3 := by
      split at h3
      · have := varP_ok h3; dsimp only at this; omega
      · injection h3 with h3; injection h3 with _ h3; omega
    have e4 := manyP_size (exprP_size vs f) _ _ _ h4
    have e5 := mustP_ok h5
    dsimp only at e4
    simp only [szE]
    omega
theorem untilP_size {st : Nat → Bool} {one : Nat → Except Flt (ST × Nat)} (h1 : ∀ i r, one i = .ok r → szS r.1 + 3 * i ≤ 3 * r.2) : ∀ (m i : Nat) (r : List ST × Nat), untilP st one m i = .ok r → szSs r.1 + 3 * i ≤ 3 * r.2
  | 0, _, _, h => by cases h
  | m + 1, i, r, h => by
    unfold untilP at h
    split at h
    · injection h with h; subst h; simp [szSs]
    · obtain ⟨⟨t, j⟩, ha, hb⟩ := bnd_ok h
      obtain ⟨⟨r', k⟩, hc, hd⟩ := bnd_ok hb
      injection hd with hd
      subst hd
      have e1 := h1 _ _ ha
      have e2 := untilP_size h1 m j _ hc
      dsimp only at e1 e2 ⊢
      simp only [szSs]
      omega
theorem listP_size {one : Nat → Except Flt (ST × Nat)} (h1 : ∀ i r, one i = .ok r → szS r.1 + 3 * i ≤ 3 * r.2) {i : Nat} {r : List ST × Nat} (h : listP ts fin one i = .ok r) : szSs r.1 + 3 * i ≤ 3 * r.2 := by
  unfold listP at h
  obtain ⟨j, ha, h⟩ := bnd_ok h
  obtain ⟨⟨l, k⟩, h2, h⟩ := bnd_ok h
  obtain ⟨m, h3, h⟩ := bnd_ok h
  injection h with h
  subst h
  have e1 := mustP_ok ha
  have e2 := untilP_size h1 _ _ (l, k) h2
  have e3 := mustP_ok h3
  dsimp only at e2 ⊢
  omega
theorem stmtP_size (vs : List VarT) : ∀ (f i : Nat) (r : ST × Nat), stmtP ts fin vs f i = .ok r → szS r.1 + 3 * i ≤ 3 * r.2
  | 0, _, _, h => by cases h
  | f + 1, i, r, h => by
    unfold stmtP at h
    obtain ⟨⟨k, i1⟩, h1, h⟩ := bnd_ok h
    obtain ⟨⟨v, i2⟩, h2, h⟩ := bnd_ok h
    obtain ⟨⟨e, i3⟩, h3, h⟩ := bnd_ok h
    obtain ⟨⟨g, i4⟩, h4, h⟩ := bnd_ok h
    obtain ⟨⟨b, i5⟩, h5, h⟩ := bnd_ok h
    obtain ⟨⟨o, i6⟩, h6, h⟩ := bnd_ok h
    obtain ⟨i7, h7, h⟩ := bnd_ok h
    injection h with h
    subst h
    have e1 := beginP_ok h1
    dsimp only at e1
    have e2 : i1 ≤ i2 := by
      split at h2
      · have := varP_ok h2; dsimp only at this; omega
      · injection h2 with h2; injection h2 with _ h2; omega
    have z1 : szE zeroT = 1 := rfl
    have e3 : szE e + i2 ≤ i3 + 1 := by
      split at h3
      · have := exprP_size vs f _ _ h3; dsimp only at this; omega
      · injection h3 with h3; injection h3 with h3 h3'; subst h3; omega
    have e3' : i2 ≤ i3 := by
      split at h3
      · have := exprP_ok vs f _ _ h3; dsimp only at this; omega
      · injection h3 with h3; injection h3 with _ h3; omega
    have e4 : szE g + i3 ≤ i4 + 1 := by
      split at h4
      · have := exprP_size vs f _ _ h4; dsimp only at this; omega
      · injection h4 with h4; injection h4 with h4 h4'; subst h4; omega
    have e4' : i3 ≤ i4 := by
      split at h4
      · have := exprP_ok vs f _ _ h4; dsimp only at this; omega
      · injection h4 with h4; injection h4 with _ h4; omega
    have e5 : szSs b + 3 * i4 ≤ 3 * i5 := by
      split at h5
      · exact listP_size (stmtP_size vs f) h5
      · injection h5 with h5; injection h5 with h5 h5'; subst h5; simp only [szSs]; omega
    have e6 : szSs o + 3 * i5 ≤ 3 * i6 := by
      split at h6
      · exact listP_size (stmtP_size vs f) h6
      · injection h6 with h6; injection h6 with h6 h6'; subst h6; simp only [szSs]; omega
    have e7 := mustP_ok h7
    simp only [szS]
    omega
end
end E
end Go.Proofs.YthbkcadiejfgaacGreatDoor
