/- Trees whose rows lie each in a block of its own: which block it is stands beside each row; how often a block is a row's. -/
import Derived.Test.YtpbdjpoohpocfabTreeB
namespace Go.Proofs.Ytpbdjpoohpocfab
set_option maxRecDepth 20000
set_option maxHeartbeats 4000000
namespace E

inductive AE where
  | mk (op v n : Int) (g : Nat) (l : List AE)
inductive AS where
  | mk (op v : Int) (e f : AE) (gb : Nat) (b : List AS) (go : Nat) (o : List AS)

mutual
def erE : AE → ET
  | .mk op v n _ l => .mk op v n (erEs l)
def erEs : List AE → List ET
  | [] => []
  | t :: r => erE t :: erEs r
end
mutual
def erS : AS → ST
  | .mk op v e f _ b _ o => .mk op v (erE e) (erE f) (erSs b) (erSs o)
def erSs : List AS → List ST
  | [] => []
  | t :: r => erS t :: erSs r
end
theorem erEs_map : ∀ l, erEs l = l.map erE
  | [] => rfl
  | t :: r => by simp [erEs, erEs_map r]
theorem erSs_map : ∀ l, erSs l = l.map erS
  | [] => rfl
  | t :: r => by simp [erSs, erSs_map r]
theorem erEs_length (l : List AE) : (erEs l).length = l.length := by simp [erEs_map]
theorem erSs_length (l : List AS) : (erSs l).length = l.length := by simp [erSs_map]

/-- A row in block g, from its head on. -/
def ARow (w : World) (k g : Nat) (a : Option Addr) (len : Nat) (cc : Nat → List Value) : Prop :=
  0 < len → a = some ⟨g, 0, none⟩ ∧ (∃ L e, Blk w g L e) ∧ ∀ i, i < len → w.rangeAt g (0 + i * k) (cc i)

inductive AExprV (w : World) : List Value → AE → Prop
  | mk {op v n : Int} {g : Nat} {l : List AE} {a : Option Addr} {cap : Nat} (cc : Nat → List Value) (hr : ARow w 4 g a l.length cc) (hc : ∀ i (h : i < l.length), AExprV w (cc i) (l[i]'h)) :
      AExprV w [.int .i64 op, .int .i64 v, .int .i64 n, .slice a l.length cap] (.mk op v n g l)
inductive AStmtV (w : World) : List Value → AS → Prop
  | mk {op v : Int} {e f : AE} {ce cf : List Value} {gb go : Nat} {b o : List AS} {ab ao : Option Addr} {capb capo : Nat} (cb co : Nat → List Value) (he : AExprV w ce e) (hf : AExprV w cf f)
      (hb : ARow w 12 gb ab b.length cb) (hcb : ∀ i (h : i < b.length), AStmtV w (cb i) (b[i]'h))
      (ho : ARow w 12 go ao o.length co) (hco : ∀ i (h : i < o.length), AStmtV w (co i) (o[i]'h)) :
      AStmtV w ([.int .i64 op, .int .i64 v] ++ ce ++ cf ++ [.slice ab b.length capb, .slice ao o.length capo]) (.mk op v e f gb b go o)
def AExprsV (w : World) (x : Value) (g : Nat) (l : List AE) : Prop :=
  ∃ a cap cc, x = .slice a l.length cap ∧ ARow w 4 g a l.length cc ∧ ∀ i (h : i < l.length), AExprV w (cc i) (l[i]'h)
def AStmtsV (w : World) (x : Value) (g : Nat) (l : List AS) : Prop :=
  ∃ a cap cc, x = .slice a l.length cap ∧ ARow w 12 g a l.length cc ∧ ∀ i (h : i < l.length), AStmtV w (cc i) (l[i]'h)

section
variable {w w' : World} {cs : List Value}
theorem ARow.keep {k g : Nat} {a : Option Addr} {len : Nat} {cc : Nat → List Value} (h : ARow w k g a len cc) (hk : Keep [] w w') : ARow w' k g a len cc := fun h0 => by
  obtain ⟨ha, ⟨L, e, hb⟩, hr⟩ := h h0
  exact ⟨ha, ⟨L, e, hk.blk hb (by simp)⟩, fun i hi => range_keep (hr i hi) hk hb.lt (by simp)⟩
theorem ARow.row {k g : Nat} {a : Option Addr} {len : Nat} {cc : Nat → List Value} (h : ARow w k g a len cc) : RowAt (fun b => b < w.heap.size) w k a len cc := fun h0 => by
  obtain ⟨ha, ⟨L, e, hb⟩, hr⟩ := h h0
  exact ⟨g, 0, ha, hb.lt, hr⟩
theorem AExprV.keep {t : AE} (h : AExprV w cs t) (hk : Keep [] w w') : AExprV w' cs t := by
  induction h with
  | mk cc hr _ ih => exact .mk cc (hr.keep hk) ih
theorem AStmtV.keep {t : AS} (h : AStmtV w cs t) (hk : Keep [] w w') : AStmtV w' cs t := by
  induction h with
  | mk cb co he hf hb _ ho _ ihb iho => exact .mk cb co (he.keep hk) (hf.keep hk) (hb.keep hk) ihb (ho.keep hk) iho
theorem AExprsV.keep {x : Value} {g : Nat} {l : List AE} (h : AExprsV w x g l) (hk : Keep [] w w') : AExprsV w' x g l := by
  obtain ⟨a, cap, cc, hx, hr, hc⟩ := h
  exact ⟨a, cap, cc, hx, hr.keep hk, fun i hi => (hc i hi).keep hk⟩
theorem AStmtsV.keep {x : Value} {g : Nat} {l : List AS} (h : AStmtsV w x g l) (hk : Keep [] w w') : AStmtsV w' x g l := by
  obtain ⟨a, cap, cc, hx, hr, hc⟩ := h
  exact ⟨a, cap, cc, hx, hr.keep hk, fun i hi => (hc i hi).keep hk⟩
theorem AExprV.plain {t : AE} (h : AExprV w cs t) : ExprV (fun b => b < w.heap.size) w cs (erE t) := by
  induction h with
  | @mk op v n g l a cap cc hr _ ih =>
    have e : l.length = (erEs l).length := (erEs_length l).symm
    simp only [erE]
    rw [e]
    refine .mk cc (by rw [← e]; exact hr.row) fun i hi => ?_
    have hi' : i < l.length := by omega
    have : (erEs l)[i] = erE l[i] := by simp [erEs_map]
    rw [this]
    exact ih i hi'
theorem AStmtV.plain {t : AS} (h : AStmtV w cs t) : StmtV (fun b => b < w.heap.size) w cs (erS t) := by
  induction h with
  | @mk op v e f ce cf gb go b o ab ao capb capo cb co he hf hb _ ho _ ihb iho =>
    have e1 : b.length = (erSs b).length := (erSs_length b).symm
    have e2 : o.length = (erSs o).length := (erSs_length o).symm
    simp only [erS]
    rw [e1, e2]
    refine .mk cb co he.plain hf.plain (by rw [← e1]; exact hb.row) (fun i hi => ?_) (by rw [← e2]; exact ho.row) (fun i hi => ?_)
    · have hi' : i < b.length := by omega
      have : (erSs b)[i] = erS b[i] := by simp [erSs_map]
      rw [this]
      exact ihb i hi'
    · have hi' : i < o.length := by omega
      have : (erSs o)[i] = erS o[i] := by simp [erSs_map]
      rw [this]
      exact iho i hi'
theorem AStmtsV.plain {x : Value} {g : Nat} {l : List AS} (h : AStmtsV w x g l) : StmtsV (fun b => b < w.heap.size) w x (erSs l) := by
  obtain ⟨a, cap, cc, rfl, hr, hc⟩ := h
  refine ⟨a, cap, cc, by rw [erSs_length], by rw [erSs_length]; exact hr.row, fun i hi => ?_⟩
  have hi' : i < l.length := by rw [erSs_length] at hi; exact hi
  have : (erSs l)[i] = erS l[i] := by simp [erSs_map]
  rw [this]
  exact (hc i hi').plain
theorem AExprsV.form {x : Value} {g : Nat} {l : List AE} (h : AExprsV w x g l) : ∃ a cap, x = .slice a l.length cap := by
  obtain ⟨a, cap, _, hv, _⟩ := h
  exact ⟨a, cap, hv⟩
theorem AStmtsV.form {x : Value} {g : Nat} {l : List AS} (h : AStmtsV w x g l) : ∃ a cap, x = .slice a l.length cap := by
  obtain ⟨a, cap, _, hv, _⟩ := h
  exact ⟨a, cap, hv⟩
theorem AExprV.inv {op v n : Int} {g : Nat} {l : List AE} (h : AExprV w cs (.mk op v n g l)) : ∃ lv, cs = [.int .i64 op, .int .i64 v, .int .i64 n, lv] ∧ AExprsV w lv g l := by
  cases h with
  | mk cc hr hc => exact ⟨_, rfl, _, _, cc, rfl, hr, hc⟩
theorem AExprV.of {op v n : Int} {g : Nat} {l : List AE} {lv : Value} (h : AExprsV w lv g l) : AExprV w [.int .i64 op, .int .i64 v, .int .i64 n, lv] (.mk op v n g l) := by
  obtain ⟨a, cap, cc, rfl, hr, hc⟩ := h
  exact .mk cc hr hc
theorem AStmtV.inv {op v : Int} {e f : AE} {gb go : Nat} {b o : List AS} (h : AStmtV w cs (.mk op v e f gb b go o)) : ∃ ce cf bv ov, cs = scells op v ce cf bv ov ∧ AExprV w ce e ∧ AExprV w cf f ∧ AStmtsV w bv gb b ∧ AStmtsV w ov go o := by
  cases h with
  | mk cb co he hf hb hcb ho hco => exact ⟨_, _, _, _, rfl, he, hf, ⟨_, _, cb, rfl, hb, hcb⟩, ⟨_, _, co, rfl, ho, hco⟩⟩
theorem AStmtV.of {op v : Int} {e f : AE} {gb go : Nat} {b o : List AS} {ce cf : List Value} {bv ov : Value} (he : AExprV w ce e) (hf : AExprV w cf f) (hb : AStmtsV w bv gb b) (ho : AStmtsV w ov go o) : AStmtV w (scells op v ce cf bv ov) (.mk op v e f gb b go o) := by
  obtain ⟨a, cap, cc, rfl, hr, hc⟩ := hb
  obtain ⟨a', cap', cc', rfl, hr', hc'⟩ := ho
  exact .mk cc cc' he hf hr hc hr' hc'
theorem AStmtsV.at {x : Value} {g : Nat} {l : List AS} (h : AStmtsV w x g l) {i : Nat} {t : AS} (ht : l[i]? = some t) : ∃ cap ci, x = .slice (some ⟨g, 0, none⟩) l.length cap ∧ (∃ L e, Blk w g L e) ∧ w.rangeAt g (0 + i * 12) ci ∧ AStmtV w ci t := by
  obtain ⟨a, cap, cc, hv, hr, hc⟩ := h
  obtain ⟨hlt, e⟩ := List.getElem?_eq_some_iff.1 ht
  obtain ⟨ha, hb, hra⟩ := hr (by omega)
  exact ⟨cap, cc i, by rw [hv, ha], hb, hra i hlt, by rw [← e]; exact hc i hlt⟩
theorem AExprsV.at {x : Value} {g : Nat} {l : List AE} (h : AExprsV w x g l) {i : Nat} {t : AE} (ht : l[i]? = some t) : ∃ cap ci, x = .slice (some ⟨g, 0, none⟩) l.length cap ∧ (∃ L e, Blk w g L e) ∧ w.rangeAt g (0 + i * 4) ci ∧ AExprV w ci t := by
  obtain ⟨a, cap, cc, hv, hr, hc⟩ := h
  obtain ⟨hlt, e⟩ := List.getElem?_eq_some_iff.1 ht
  obtain ⟨ha, hb, hra⟩ := hr (by omega)
  exact ⟨cap, cc i, by rw [hv, ha], hb, hra i hlt, by rw [← e]; exact hc i hlt⟩
theorem AExprV.length {t : AE} (h : AExprV w cs t) : cs.length = 4 := by cases h; rfl
end

/-! ### How often a block is a row's -/
def hit (g b n : Nat) : Nat := if n = 0 then 0 else if g = b then 1 else 0
mutual
def cE (b : Nat) : AE → Nat
  | .mk _ _ _ g l => hit g b l.length + cEs b l
def cEs (b : Nat) : List AE → Nat
  | [] => 0
  | t :: r => cE b t + cEs b r
end
mutual
def sS (b : Nat) : AS → Nat
  | .mk _ _ _ _ gb lb go lo => hit gb b lb.length + hit go b lo.length + sSs b lb + sSs b lo
def sSs (b : Nat) : List AS → Nat
  | [] => 0
  | t :: r => sS b t + sSs b r
end
mutual
def xS (b : Nat) : AS → Nat
  | .mk _ _ e f _ lb _ lo => cE b e + cE b f + xSs b lb + xSs b lo
def xSs (b : Nat) : List AS → Nat
  | [] => 0
  | t :: r => xS b t + xSs b r
end
theorem hit_le (g b n : Nat) : hit g b n ≤ 1 := by unfold hit; split <;> (try split) <;> omega
theorem hit_self {g n : Nat} (h : 0 < n) : hit g g n = 1 := by unfold hit; rw [if_neg (by omega), if_pos rfl]
theorem hit_ne {g b n : Nat} (h : g ≠ b) : hit g b n = 0 := by unfold hit; split <;> simp_all
theorem cEs_append (b : Nat) : ∀ a c, cEs b (a ++ c) = cEs b a + cEs b c
  | [], c => by simp [cEs]
  | t :: r, c => by simp only [List.cons_append, cEs, cEs_append b r c]; omega
theorem sSs_append (b : Nat) : ∀ a c, sSs b (a ++ c) = sSs b a + sSs b c
  | [], c => by simp [sSs]
  | t :: r, c => by simp only [List.cons_append, sSs, sSs_append b r c]; omega
theorem xSs_append (b : Nat) : ∀ a c, xSs b (a ++ c) = xSs b a + xSs b c
  | [], c => by simp [xSs]
  | t :: r, c => by simp only [List.cons_append, xSs, xSs_append b r c]; omega

theorem cEs_at {b : Nat} {l : List AE} (h : cEs b l = 0) : ∀ i (hi : i < l.length), cE b (l[i]'hi) = 0 := by
  induction l with
  | nil => intro i hi; simp at hi
  | cons t r ih =>
    simp only [cEs] at h
    intro i hi
    cases i with
    | zero => simp only [List.getElem_cons_zero]; omega
    | succ i => simp only [List.getElem_cons_succ]; exact ih (by omega) i (by simpa using hi)
theorem sSs_at {b : Nat} {l : List AS} (h : sSs b l = 0) : ∀ i (hi : i < l.length), sS b (l[i]'hi) = 0 := by
  induction l with
  | nil => intro i hi; simp at hi
  | cons t r ih =>
    simp only [sSs] at h
    intro i hi
    cases i with
    | zero => simp only [List.getElem_cons_zero]; omega
    | succ i => simp only [List.getElem_cons_succ]; exact ih (by omega) i (by simpa using hi)
theorem xSs_at {b : Nat} {l : List AS} (h : xSs b l = 0) : ∀ i (hi : i < l.length), xS b (l[i]'hi) = 0 := by
  induction l with
  | nil => intro i hi; simp at hi
  | cons t r ih =>
    simp only [xSs] at h
    intro i hi
    cases i with
    | zero => simp only [List.getElem_cons_zero]; omega
    | succ i => simp only [List.getElem_cons_succ]; exact ih (by omega) i (by simpa using hi)

theorem ARow.keepBut {w w' : World} {k g x : Nat} {a : Option Addr} {len : Nat} {cc : Nat → List Value} (h : ARow w k g a len cc) (hk : Keep [x] w w') (hx : hit g x len = 0) : ARow w' k g a len cc := fun h0 => by
  obtain ⟨ha, ⟨L, e, hb⟩, hr⟩ := h h0
  have hne : g ≠ x := fun e => by subst e; rw [hit_self h0] at hx; omega
  exact ⟨ha, ⟨L, e, hk.blk hb (by simpa using hne)⟩, fun i hi => range_keep (hr i hi) hk hb.lt (by simpa using hne)⟩
theorem AExprV.keepBut {w w' : World} {cs : List Value} {x : Nat} {t : AE} (h : AExprV w cs t) (hk : Keep [x] w w') (hx : cE x t = 0) : AExprV w' cs t := by
  induction h with
  | mk cc hr _ ih =>
    simp only [cE] at hx
    exact .mk cc (hr.keepBut hk (by omega)) fun i hi => ih i hi (cEs_at (by omega) i hi)
theorem AStmtV.keepBut {w w' : World} {cs : List Value} {x : Nat} {t : AS} (h : AStmtV w cs t) (hk : Keep [x] w w') (hs : sS x t = 0) (hx : xS x t = 0) : AStmtV w' cs t := by
  induction h with
  | mk cb co he hf hb _ ho _ ihb iho =>
    simp only [sS, xS] at hs hx
    exact .mk cb co (he.keepBut hk (by omega)) (hf.keepBut hk (by omega)) (hb.keepBut hk (by omega)) (fun i hi => ihb i hi (sSs_at (by omega) i hi) (xSs_at (by omega) i hi)) (ho.keepBut hk (by omega)) (fun i hi => iho i hi (sSs_at (by omega) i hi) (xSs_at (by omega) i hi))
theorem AStmtsV.keepBut {w w' : World} {x : Nat} {v : Value} {g : Nat} {l : List AS} (h : AStmtsV w v g l) (hk : Keep [x] w w') (hh : hit g x l.length = 0) (hs : sSs x l = 0) (hx : xSs x l = 0) : AStmtsV w' v g l := by
  obtain ⟨a, cap, cc, hv, hr, hc⟩ := h
  exact ⟨a, cap, cc, hv, hr.keepBut hk hh, fun i hi => (hc i hi).keepBut hk (sSs_at hs i hi) (xSs_at hx i hi)⟩

/-- Counts that are one at most, and none outside. -/
structure Cnts (f : Nat → Nat) (lo hi : Nat) : Prop where
  one : ∀ b, f b ≤ 1
  out : ∀ b, b < lo ∨ hi ≤ b → f b = 0
theorem Cnts.zero (lo hi : Nat) : Cnts (fun _ => 0) lo hi := ⟨fun _ => by omega, fun _ _ => rfl⟩
theorem Cnts.mono {f : Nat → Nat} {lo hi lo' hi' : Nat} (h : Cnts f lo hi) (h1 : lo' ≤ lo) (h2 : hi ≤ hi') : Cnts f lo' hi' := ⟨h.one, fun b hb => h.out b (by omega)⟩
theorem Cnts.add {f g : Nat → Nat} {lo mid hi : Nat} (hf : Cnts f lo mid) (hg : Cnts g mid hi) (h1 : lo ≤ mid) (h2 : mid ≤ hi) : Cnts (fun b => f b + g b) lo hi :=
  ⟨fun b => by
    have := hf.one b
    have := hg.one b
    rcases Nat.lt_or_ge b mid with h | h
    · have := hg.out b (.inl h); omega
    · have := hf.out b (.inr h); omega,
   fun b hb => by
    have := hf.out b (by omega)
    have := hg.out b (by omega)
    omega⟩
theorem Cnts.congr {f g : Nat → Nat} {lo hi : Nat} (h : Cnts f lo hi) (e : ∀ b, g b = f b) : Cnts g lo hi := ⟨fun b => by rw [e]; exact h.one b, fun b hb => by rw [e]; exact h.out b hb⟩
/-- A row more, in a block that none is in. -/
theorem Cnts.row {f : Nat → Nat} {lo hi g n : Nat} (h : Cnts f lo hi) (hg : f g = 0) (h1 : lo ≤ g) (h2 : g < hi) : Cnts (fun b => hit g b n + f b) lo hi :=
  ⟨fun b => by
    have := h.one b
    have := hit_le g b n
    by_cases e : g = b
    · subst e; omega
    · have := hit_ne (n := n) e; omega,
   fun b hb => by
    have := h.out b hb
    have := hit_ne (n := n) (show g ≠ b by omega)
    omega⟩
end E
end Go.Proofs.Ytpbdjpoohpocfab
