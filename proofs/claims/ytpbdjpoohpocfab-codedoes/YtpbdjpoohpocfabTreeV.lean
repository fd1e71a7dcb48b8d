/- Variables of a program, as they lie in memory and as they are read. -/
import Derived.Test.YtpbdjpoohpocfabCodeM
import Derived.Test.YtpbdjpoohpocfabTreeRd
namespace Go.Proofs.Ytpbdjpoohpocfab
set_option maxRecDepth 20000
set_option maxHeartbeats 4000000
namespace E

def vcell (x : VarT) : List Value := [.string x.1, .int .i64 x.2]

/-- A slice of variables. -/
def VarsV (F : Nat → Prop) (w : World) (v : Value) (l : List VarT) : Prop :=
  ∃ a cap, v = .slice a l.length cap ∧ l.length ≤ cap ∧ RowAt F w 2 a l.length (fun i => vcell (l.getD i (ByteArray.empty, 0)))

section
variable {F F' : Nat → Prop} {w w' : World} {v : Value} {l : List VarT}
theorem VarsV.keep {fp : List Nat} (h : VarsV F w v l) (hk : Keep fp w w') (hs : Stays F w fp) : VarsV F w' v l := by
  obtain ⟨a, cap, hv, hc, hr⟩ := h
  exact ⟨a, cap, hv, hc, hr.keep hk hs⟩
theorem VarsV.mono (h : VarsV F w v l) (hF : ∀ b, F b → F' b) : VarsV F' w v l := by
  obtain ⟨a, cap, hv, hc, hr⟩ := h
  exact ⟨a, cap, hv, hc, hr.mono hF⟩
theorem VarsV.form (h : VarsV F w v l) : ∃ a cap, v = .slice a l.length cap := by
  obtain ⟨a, cap, hv, _⟩ := h
  exact ⟨a, cap, hv⟩
theorem VarsV.room {a : Option Addr} {cap : Nat} (h : VarsV F w (.slice a l.length cap) l) : l.length ≤ cap := by
  obtain ⟨a', cap', hv, hc, _⟩ := h
  cases hv
  exact hc
theorem VarsV.at (h : VarsV F w v l) {i : Nat} {x : VarT} (hx : l[i]? = some x) : ∃ b q cap, v = .slice (some ⟨b, q, none⟩) l.length cap ∧ F b ∧ w.rangeAt b (q + i * 2) (vcell x) := by
  obtain ⟨a, cap, hv, _, hr⟩ := h
  obtain ⟨hlt, e⟩ := List.getElem?_eq_some_iff.1 hx
  obtain ⟨b, q, ha, hF, hra⟩ := hr (by omega)
  have this : w.rangeAt b (q + i * 2) (vcell (l.getD i (ByteArray.empty, 0))) := hra i hlt
  rw [List.getD_eq_getElem?_getD, hx] at this
  exact ⟨b, q, cap, by rw [hv, ha], hF, this⟩
end

/-- A program as a value: its variables, its body. -/
def ProgV (F : Nat → Prop) (w : World) (v : Value) (vs : List VarT) (b : List ST) : Prop := ∃ vv bv, v = .agg #[vv, bv] ∧ VarsV F w vv vs ∧ StmtsV F w bv b
theorem ProgV.keep {F : Nat → Prop} {w w' : World} {v : Value} {vs : List VarT} {b : List ST} {fp : List Nat} (h : ProgV F w v vs b) (hk : Keep fp w w') (hs : Stays F w fp) : ProgV F w' v vs b := by
  obtain ⟨vv, bv, hv, h1, h2⟩ := h
  exact ⟨vv, bv, hv, h1.keep hk hs, h2.keep hk hs⟩
theorem ProgV.mono {F F' : Nat → Prop} {w : World} {v : Value} {vs : List VarT} {b : List ST} (h : ProgV F w v vs b) (hF : ∀ b, F b → F' b) : ProgV F' w v vs b := by
  obtain ⟨vv, bv, hv, h1, h2⟩ := h
  exact ⟨vv, bv, hv, h1.mono hF, h2.mono hF⟩

section
variable {H : Type} {enc : TypeId × Value → H} {P : Program} {w : World} {base : Nat} {spare : Nat → Bool} {held : Bool}
/-- A variable's two cells, each read. -/
def VarSplit (enc : TypeId × Value → H) (P : Program) (w : World) (base : Nat) (spare : Nat → Bool) (held : Bool) (tStr tI tV : TypeId) : Prop :=
  ∀ fuel cs x, DataW.trod enc P w base spare held fuel tV cs = some x → ∃ n c0 c1, fuel = n + 1 ∧ cs = [c0, c1] ∧ (∃ y, DataW.trod enc P w base spare held n tStr [c0] = some y) ∧ (∃ y, DataW.trod enc P w base spare held n tI [c1] = some y)

theorem trod_vars {tStr tI tLV tV : TypeId} (hS : P.underlying tStr = some .string) (hI : P.underlying tI = some (.int .i64)) (hLV : P.underlying tLV = some (.slice tV)) (hc : P.cellsOf tV = 2) (hsp : VarSplit enc P w base spare held tStr tI tV)
    {fuel : Nat} {cs : List Value} {x : DataW H × List MemPlace} (h : DataW.trod enc P w base spare held fuel tLV cs = some x) : ∃ vv l, cs = [vv] ∧ VarsV (fun b => b < w.heap.size) w vv l := by
  obtain ⟨a, cap, L, cc, hcs, hr, hq, hcap⟩ := open_rows (Q := fun cs (x : VarT) => cs = vcell x) 2 (by decide) hLV hc (fun m _ cs x h => by
    obtain ⟨n, c0, c1, _, rfl, ⟨_, h0⟩, ⟨_, h1⟩⟩ := hsp m cs x h
    obtain ⟨s, hs, _⟩ := DataW.trod_string hS h0
    obtain ⟨z, hz⟩ := int_cell hI h1
    simp at hs
    exact ⟨(s, z), by rw [hs, hz]; rfl⟩) h
  refine ⟨_, L, hcs, a, cap, rfl, hcap, fun h0 => ?_⟩
  obtain ⟨b, q, ha, hF, hra⟩ := hr h0
  refine ⟨b, q, ha, hF, fun i hi => ?_⟩
  have := hra i hi
  rw [hq i hi] at this
  show w.rangeAt b (q + i * 2) (vcell (L.getD i (ByteArray.empty, 0)))
  rw [List.getD_eq_getElem?_getD, List.getElem?_eq_getElem hi]
  exact this
end
end E
end Go.Proofs.Ytpbdjpoohpocfab
