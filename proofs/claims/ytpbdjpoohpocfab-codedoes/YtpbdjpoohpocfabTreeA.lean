/- Trees of expressions and of statements, as they lie in memory. -/
import Derived.Test.YtpbdjpoohpocfabInts
namespace Go.Proofs.Ytpbdjpoohpocfab
set_option maxRecDepth 20000
namespace E

inductive ET where
  | mk (op v n : Int) (l : List ET)
inductive ST where
  | mk (op v : Int) (e f : ET) (b o : List ST)

/-- A slice's elements, k cells each, in blocks of F. -/
def RowAt (F : Nat → Prop) (w : World) (k : Nat) (a : Option Addr) (len : Nat) (cc : Nat → List Value) : Prop :=
  0 < len → ∃ b q, a = some ⟨b, q, none⟩ ∧ F b ∧ ∀ i, i < len → w.rangeAt b (q + i * k) (cc i)

/-- The cells cs are the expression; what it leads to lies in blocks of F. -/
inductive ExprV (F : Nat → Prop) (w : World) : List Value → ET → Prop
  | mk {op v n : Int} {l : List ET} {a : Option Addr} {cap : Nat} (cc : Nat → List Value) (hr : RowAt F w 4 a l.length cc) (hc : ∀ i (h : i < l.length), ExprV F w (cc i) (l[i]'h)) :
      ExprV F w [.int .i64 op, .int .i64 v, .int .i64 n, .slice a l.length cap] (.mk op v n l)

inductive StmtV (F : Nat → Prop) (w : World) : List Value → ST → Prop
  | mk {op v : Int} {e f : ET} {ce cf : List Value} {b o : List ST} {ab ao : Option Addr} {capb capo : Nat} (cb co : Nat → List Value) (he : ExprV F w ce e) (hf : ExprV F w cf f)
      (hb : RowAt F w 12 ab b.length cb) (hcb : ∀ i (h : i < b.length), StmtV F w (cb i) (b[i]'h))
      (ho : RowAt F w 12 ao o.length co) (hco : ∀ i (h : i < o.length), StmtV F w (co i) (o[i]'h)) :
      StmtV F w ([.int .i64 op, .int .i64 v] ++ ce ++ cf ++ [.slice ab b.length capb, .slice ao o.length capo]) (.mk op v e f b o)

/-- A slice of statements. -/
def StmtsV (F : Nat → Prop) (w : World) (v : Value) (l : List ST) : Prop :=
  ∃ a cap cc, v = .slice a l.length cap ∧ RowAt F w 12 a l.length cc ∧ ∀ i (h : i < l.length), StmtV F w (cc i) (l[i]'h)
/-- A slice of expressions. -/
def ExprsV (F : Nat → Prop) (w : World) (v : Value) (l : List ET) : Prop :=
  ∃ a cap cc, v = .slice a l.length cap ∧ RowAt F w 4 a l.length cc ∧ ∀ i (h : i < l.length), ExprV F w (cc i) (l[i]'h)

section
variable {F F' : Nat → Prop} {w w' : World} {cs : List Value}

theorem ExprV.length {t : ET} (h : ExprV F w cs t) : cs.length = 4 := by cases h; rfl
theorem ExprV.one {t : ET} (h : ExprV F w cs t) : ∀ u ∈ cs, u.oneCell' = true := by
  cases h
  intro u hu
  simp at hu
  rcases hu with rfl | rfl | rfl | rfl <;> rfl
theorem StmtV.length {t : ST} (h : StmtV F w cs t) : cs.length = 12 := by
  cases h with
  | mk cb co he hf => simp [he.length, hf.length]
theorem StmtV.one {t : ST} (h : StmtV F w cs t) : ∀ u ∈ cs, u.oneCell' = true := by
  cases h with
  | mk cb co he hf =>
    intro u hu
    simp only [List.mem_append, List.mem_cons, List.not_mem_nil, or_false] at hu
    rcases hu with (((rfl | rfl) | hu) | hu) | (rfl | rfl)
    · rfl
    · rfl
    · exact he.one u hu
    · exact hf.one u hu
    · rfl
    · rfl

/-- What F allows stays: it is there, and it is not touched. -/
def Stays (F : Nat → Prop) (w : World) (fp : List Nat) : Prop := ∀ k, F k → k < w.heap.size ∧ k ∉ fp

theorem RowAt.keep {k : Nat} {a : Option Addr} {len : Nat} {cc : Nat → List Value} {fp : List Nat} (h : RowAt F w k a len cc) (hk : Keep fp w w') (hs : Stays F w fp) : RowAt F w' k a len cc := fun h0 => by
  obtain ⟨b, q, ha, hF, hr⟩ := h h0
  refine ⟨b, q, ha, hF, fun i hi j v hv => ?_⟩
  rw [World.cell?_of_block (w := w) (hk.block b (hs b hF).1 (hs b hF).2)]
  exact hr i hi j v hv
theorem RowAt.mono {k : Nat} {a : Option Addr} {len : Nat} {cc : Nat → List Value} (h : RowAt F w k a len cc) (hF : ∀ b, F b → F' b) : RowAt F' w k a len cc := fun h0 => by
  obtain ⟨b, q, ha, hb, hr⟩ := h h0
  exact ⟨b, q, ha, hF b hb, hr⟩
theorem ExprV.keep {t : ET} {fp : List Nat} (h : ExprV F w cs t) (hk : Keep fp w w') (hs : Stays F w fp) : ExprV F w' cs t := by
  induction h with
  | mk cc hr _ ih => exact .mk cc (hr.keep hk hs) ih
theorem ExprV.mono {t : ET} (h : ExprV F w cs t) (hF : ∀ b, F b → F' b) : ExprV F' w cs t := by
  induction h with
  | mk cc hr _ ih => exact .mk cc (hr.mono hF) ih
theorem StmtV.keep {t : ST} {fp : List Nat} (h : StmtV F w cs t) (hk : Keep fp w w') (hs : Stays F w fp) : StmtV F w' cs t := by
  induction h with
  | mk cb co he hf hb _ ho _ ihb iho => exact .mk cb co (he.keep hk hs) (hf.keep hk hs) (hb.keep hk hs) ihb (ho.keep hk hs) iho
theorem StmtV.mono {t : ST} (h : StmtV F w cs t) (hF : ∀ b, F b → F' b) : StmtV F' w cs t := by
  induction h with
  | mk cb co he hf hb _ ho _ ihb iho => exact .mk cb co (he.mono hF) (hf.mono hF) (hb.mono hF) ihb (ho.mono hF) iho
theorem StmtsV.keep {v : Value} {l : List ST} {fp : List Nat} (h : StmtsV F w v l) (hk : Keep fp w w') (hs : Stays F w fp) : StmtsV F w' v l := by
  obtain ⟨a, cap, cc, hv, hr, hc⟩ := h
  exact ⟨a, cap, cc, hv, hr.keep hk hs, fun i hi => (hc i hi).keep hk hs⟩
theorem StmtsV.mono {v : Value} {l : List ST} (h : StmtsV F w v l) (hF : ∀ b, F b → F' b) : StmtsV F' w v l := by
  obtain ⟨a, cap, cc, hv, hr, hc⟩ := h
  exact ⟨a, cap, cc, hv, hr.mono hF, fun i hi => (hc i hi).mono hF⟩
theorem ExprsV.keep {v : Value} {l : List ET} {fp : List Nat} (h : ExprsV F w v l) (hk : Keep fp w w') (hs : Stays F w fp) : ExprsV F w' v l := by
  obtain ⟨a, cap, cc, hv, hr, hc⟩ := h
  exact ⟨a, cap, cc, hv, hr.keep hk hs, fun i hi => (hc i hi).keep hk hs⟩
theorem ExprsV.mono {v : Value} {l : List ET} (h : ExprsV F w v l) (hF : ∀ b, F b → F' b) : ExprsV F' w v l := by
  obtain ⟨a, cap, cc, hv, hr, hc⟩ := h
  exact ⟨a, cap, cc, hv, hr.mono hF, fun i hi => (hc i hi).mono hF⟩

/-- One of a slice of statements. -/
theorem StmtsV.at {v : Value} {l : List ST} (h : StmtsV F w v l) {i : Nat} {t : ST} (ht : l[i]? = some t) : ∃ b q cap ci, v = .slice (some ⟨b, q, none⟩) l.length cap ∧ F b ∧ w.rangeAt b (q + i * 12) ci ∧ StmtV F w ci t := by
  obtain ⟨a, cap, cc, hv, hr, hc⟩ := h
  obtain ⟨hlt, e⟩ := List.getElem?_eq_some_iff.1 ht
  obtain ⟨b, q, ha, hF, hra⟩ := hr (by omega)
  exact ⟨b, q, cap, cc i, by rw [hv, ha], hF, hra i hlt, by rw [← e]; exact hc i hlt⟩
theorem ExprsV.at {v : Value} {l : List ET} (h : ExprsV F w v l) {i : Nat} {t : ET} (ht : l[i]? = some t) : ∃ b q cap ci, v = .slice (some ⟨b, q, none⟩) l.length cap ∧ F b ∧ w.rangeAt b (q + i * 4) ci ∧ ExprV F w ci t := by
  obtain ⟨a, cap, cc, hv, hr, hc⟩ := h
  obtain ⟨hlt, e⟩ := List.getElem?_eq_some_iff.1 ht
  obtain ⟨b, q, ha, hF, hra⟩ := hr (by omega)
  exact ⟨b, q, cap, cc i, by rw [hv, ha], hF, hra i hlt, by rw [← e]; exact hc i hlt⟩
theorem StmtsV.form {v : Value} {l : List ST} (h : StmtsV F w v l) : ∃ a cap, v = .slice a l.length cap := by
  obtain ⟨a, cap, _, hv, _⟩ := h
  exact ⟨a, cap, hv⟩
theorem ExprsV.form {v : Value} {l : List ET} (h : ExprsV F w v l) : ∃ a cap, v = .slice a l.length cap := by
  obtain ⟨a, cap, _, hv, _⟩ := h
  exact ⟨a, cap, hv⟩

/-- An expression by its cells. -/
theorem ExprV.inv {op v n : Int} {l : List ET} (h : ExprV F w cs (.mk op v n l)) : ∃ lv, cs = [.int .i64 op, .int .i64 v, .int .i64 n, lv] ∧ ExprsV F w lv l := by
  cases h with
  | mk cc hr hc => exact ⟨_, rfl, _, _, cc, rfl, hr, hc⟩
theorem ExprV.of {op v n : Int} {l : List ET} {lv : Value} (h : ExprsV F w lv l) : ExprV F w [.int .i64 op, .int .i64 v, .int .i64 n, lv] (.mk op v n l) := by
  obtain ⟨a, cap, cc, rfl, hr, hc⟩ := h
  exact .mk cc hr hc
/-- A statement by its cells. -/
theorem StmtV.inv {op v : Int} {e f : ET} {b o : List ST} (h : StmtV F w cs (.mk op v e f b o)) : ∃ ce cf bv ov, cs = [.int .i64 op, .int .i64 v] ++ ce ++ cf ++ [bv, ov] ∧ ExprV F w ce e ∧ ExprV F w cf f ∧ StmtsV F w bv b ∧ StmtsV F w ov o := by
  cases h with
  | mk cb co he hf hb hcb ho hco => exact ⟨_, _, _, _, rfl, he, hf, ⟨_, _, cb, rfl, hb, hcb⟩, ⟨_, _, co, rfl, ho, hco⟩⟩
theorem StmtV.of {op v : Int} {e f : ET} {b o : List ST} {ce cf : List Value} {bv ov : Value} (he : ExprV F w ce e) (hf : ExprV F w cf f) (hb : StmtsV F w bv b) (ho : StmtsV F w ov o) : StmtV F w ([.int .i64 op, .int .i64 v] ++ ce ++ cf ++ [bv, ov]) (.mk op v e f b o) := by
  obtain ⟨a, cap, cc, rfl, hr, hc⟩ := hb
  obtain ⟨a', cap', cc', rfl, hr', hc'⟩ := ho
  exact .mk cc cc' he hf hr hc hr' hc'
theorem ExprsV.nil : ExprsV F w (.slice none 0 0) [] := ⟨none, 0, fun _ => [], rfl, fun h => absurd h (by simp), fun i h => by simp at h⟩
theorem StmtsV.nil : StmtsV F w (.slice none 0 0) [] := ⟨none, 0, fun _ => [], rfl, fun h => absurd h (by simp), fun i h => by simp at h⟩
end

/-! ### How great a tree is -/
mutual
def szE : ET → Nat
  | .mk _ _ _ l => 1 + szEs l
def szEs : List ET → Nat
  | [] => 0
  | t :: r => szE t + szEs r
end
mutual
def szS : ST → Nat
  | .mk _ _ e f b o => 1 + szE e + szE f + szSs b + szSs o
def szSs : List ST → Nat
  | [] => 0
  | t :: r => szS t + szSs r
end
end E
end Go.Proofs.Ytpbdjpoohpocfab
