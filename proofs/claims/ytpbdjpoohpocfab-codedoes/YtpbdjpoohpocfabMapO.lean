/- Maps whose keys are two addresses and a number: a key whose first address is in a block that no key has is not there, and is put behind all others. -/
import Derived.Test.YtpbdjpoohpocfabStep
import Derived.LaidEqlPtr
import Derived.MapKept
namespace Go.Proofs.Ytpbdjpoohpocfab
set_option maxRecDepth 20000
set_option maxHeartbeats 4000000
namespace E

/-- A struct of two pointers and a number. -/
def isPlace (P : Program) (t : Nat) : Bool :=
  match P.underlying t with
  | some (.struct fs) => match fs.toList with
    | [f, g, h] => f.offset == 0 && g.offset == 1 && h.offset == 2 && (f.name != "_") && (g.name != "_") && (h.name != "_") && (match P.underlying f.type with | some (.pointer e) => (match P.info? e with | some i => i.size != 0 | none => false) | _ => false) &&
        (match P.underlying g.type with | some (.pointer _) => true | _ => false) && (match P.underlying h.type with | some (.int _) => true | _ => false) && !(P.stoodInHeld t)
    | _ => false
  | _ => false

theorem isPlace_spec {P : Program} {t : Nat} (h : isPlace P t = true) : ∃ fs f g k e i e2 kk, P.underlying t = some (.struct fs) ∧ fs.toList = [f, g, k] ∧ f.offset = 0 ∧ g.offset = 1 ∧ k.offset = 2 ∧ f.name ≠ "_" ∧ g.name ≠ "_" ∧ k.name ≠ "_" ∧
    P.underlying f.type = some (.pointer e) ∧ P.info? e = some i ∧ i.size ≠ 0 ∧ P.underlying g.type = some (.pointer e2) ∧ P.underlying k.type = some (.int kk) ∧ P.stoodInHeld t = false := by
  unfold isPlace at h
  split at h
  · rename_i fs hu
    split at h
    · rename_i f g k hfs
      simp only [Bool.and_eq_true, beq_iff_eq, bne_iff_ne, Bool.not_eq_true'] at h
      obtain ⟨⟨⟨⟨⟨⟨⟨⟨⟨h1, h2⟩, h3⟩, h4⟩, h5⟩, h6⟩, h7⟩, h8⟩, h9⟩, h10⟩ := h
      split at h7
      · rename_i e he
        split at h7
        · rename_i i hi
          split at h8
          · rename_i e2 he2
            split at h9
            · rename_i kk hkk
              exact ⟨fs, f, g, k, e, i, e2, kk, hu, hfs, h1, h2, h3, h4, h5, h6, he, hi, by simpa using h7, he2, hkk, h10⟩
            · cases h9
          · cases h8
        · cases h7
      · cases h7
    · cases h
  · cases h

section
variable {P : Program} {w : World} {t : Nat}

theorem run_equal_place (h : isPlace P t = true) {g g' : Nat} {L L' : List Value} {e e' : TypeId} (hb : Blk w g L e) (hb' : Blk w g' L' e') (hne : g ≠ g') (b b' c c' : Value) :
    (Op.equal t (.agg #[.pointer (some ⟨g, 0, none⟩), b, c]) (.agg #[.pointer (some ⟨g', 0, none⟩), b', c'])).run P w = .ok false w := by
  obtain ⟨fs, f, gg, k, e1, i, e2, kk, hu, hfs, h1, h2, h3, h4, h5, h6, he, hi, hs, he2, hkk, h10⟩ := isPlace_spec h
  have hf : P.fieldsOf t = fs := by simp [Program.fieldsOf, hu]
  show (Op.equalIn (9999 + 1) t _ _).run P w = _
  rw [run_equalIn_struct w 9999 t _ _ (by rw [hf]; exact hu) h10, hf, hfs]
  have p1 : ∀ x : Value, ∀ b c : Value, (part f.type #[x, b, c] 0).run P w = .ok x w := fun x b c => by simp [part, isAgg, run_underlying he]
  have hq : ∀ d, (Op.equalIn (d + 1) f.type (.pointer (some ⟨g, 0, none⟩)) (.pointer (some ⟨g', 0, none⟩))).run P w = .ok false w := fun d => by
    have hsa := run_sameAddr_other (P := P) w (a := ⟨g, 0, none⟩) (b := ⟨g', 0, none⟩) (by intro h; injection h with h; exact hne h) hb hb'
    simp [Op.equalIn, run_underlying he, sizeOf, typeInfo, hi, hs, hsa]
  simp only [Op.eqFields, h1, h4, ne_eq, not_false_eq_true, if_true, Sem.run_bind, p1, Result.andThen_ok]
  have hq' : (Op.equalIn 9999 f.type (.pointer (some ⟨g, 0, none⟩)) (.pointer (some ⟨g', 0, none⟩))).run P w = .ok false w := hq 9998
  rw [hq']
  simp only [Result.andThen_ok, Bool.not_false, if_true, Sem.run_pure]

theorem run_checkKey_place (h : isPlace P t = true) (em : Bool) (a b : Option Addr) (k : IntKind) (n : Int) : (Instr.checkKey em 10000 t (.agg #[.pointer a, .pointer b, .int k n])).run P w = .ok () w := by
  obtain ⟨fs, f, gg, kf, e1, i, e2, kk, hu, hfs, h1, h2, h3, h4, h5, h6, he, hi, hs, he2, hkk, h10⟩ := isPlace_spec h
  show (Instr.checkKey em (9999 + 1) t _).run P w = _
  have q1 : (part f.type #[.pointer a, .pointer b, .int k n] 0).run P w = .ok (.pointer a) w := by simp [part, isAgg, run_underlying he]
  have q2 : (part gg.type #[.pointer a, .pointer b, .int k n] 1).run P w = .ok (.pointer b) w := by simp [part, isAgg, run_underlying he2]
  have q3 : (part kf.type #[.pointer a, .pointer b, .int k n] 2).run P w = .ok (.int k n) w := by simp [part, isAgg, run_underlying hkk]
  have c1' : ∀ d, (Instr.checkKey em (d + 1) f.type (.pointer a)).run P w = .ok () w := fun d => by simp [Instr.checkKey, run_underlying he]
  have c1 : (Instr.checkKey em 9999 f.type (.pointer a)).run P w = .ok () w := c1' 9998
  have c2' : ∀ d, (Instr.checkKey em (d + 1) gg.type (.pointer b)).run P w = .ok () w := fun d => by simp [Instr.checkKey, run_underlying he2]
  have c2 : (Instr.checkKey em 9999 gg.type (.pointer b)).run P w = .ok () w := c2' 9998
  have c3' : ∀ d, (Instr.checkKey em (d + 1) kf.type (.int k n)).run P w = .ok () w := fun d => by simp [Instr.checkKey, run_underlying hkk]
  have c3 : (Instr.checkKey em 9999 kf.type (.int k n)).run P w = .ok () w := c3' 9998
  rw [Instr.checkKey]
  simp only [Sem.run_bind, run_underlying hu, Result.andThen_ok]
  rw [← Array.forIn_toList, hfs]
  simp only [List.forIn_cons, List.forIn_nil, Sem.run_bind, h1, h2, h3, h4, h5, h6, ne_eq, not_false_eq_true, if_true, Result.andThen_ok, q1, q2, q3, c1, c2, c3, Sem.run_pure]

/-- The first addresses of all keys are in blocks of M. -/
def KeysIn (M : List Nat) (es : List MapEntry) : Prop := ∀ x ∈ es, ∃ g ∈ M, ∃ b c, x.key = .agg #[.pointer (some ⟨g, 0, none⟩), b, c]

theorem run_findKey_miss (h : isPlace P t = true) {M : List Nat} {g : Nat} {L : List Value} {e : TypeId} (hb : Blk w g L e) (hM : ∀ g' ∈ M, ∃ L e, Blk w g' L e) (hg : g ∉ M) (b c : Value) (es : List MapEntry) (hk : KeysIn M es) :
    (Instr.findKey t (.agg #[.pointer (some ⟨g, 0, none⟩), b, c]) es).run P w = .ok none w := by
  obtain ⟨fs, f, gg, kf, e1, i, e2, kk, hu, _⟩ := isPlace_spec h
  have hask : ∀ (es : List MapEntry) (i : Nat), KeysIn M es → (Instr.findAsking t (.agg #[.pointer (some ⟨g, 0, none⟩), b, c]) es i).run P w = .ok none w := by
    intro es
    induction es with
    | nil => intro i _; simp [Instr.findAsking]
    | cons x r ih =>
      intro i hk
      obtain ⟨g', hg', b', c', hx⟩ := hk x (by simp)
      obtain ⟨L', e', hb'⟩ := hM g' hg'
      have heq := run_equal_place h hb hb' (fun e => hg (by rw [e]; exact hg')) b b' c c'
      rw [← hx] at heq
      simp [Instr.findAsking, heq, ih (i + 1) (fun y hy => hk y (by simp [hy]))]
  unfold Instr.findKey
  simp only [Sem.run_bind, run_underlying hu, Result.andThen_ok]
  cases es with
  | nil => simp [Instr.findNow]
  | cons x r =>
    have hn : Instr.findNow (.struct fs) (.agg #[.pointer (some ⟨g, 0, none⟩), b, c]) (x :: r) 0 = none := by
      obtain ⟨g', hg', b', c', hx⟩ := hk x (by simp)
      simp [Instr.findNow, Instr.sameNow]
    rw [hn]
    exact hask _ 0 hk

def mapOk (P : Program) (t kt : Nat) : Bool :=
  match P.underlying t with
  | some (.map k e) => k == kt && isPlace P kt && (match P.info? e with | some i => (match i.zero with | some (.agg cs) => cs.size == 0 | _ => false) | none => false)
  | _ => false
theorem mapOk_spec {kt : Nat} (h : mapOk P t kt = true) : ∃ e i cs, P.underlying t = some (.map kt e) ∧ isPlace P kt = true ∧ P.info? e = some i ∧ i.zero = some (.agg cs) ∧ cs = #[] := by
  unfold mapOk at h
  split at h
  · rename_i k e hu
    simp only [Bool.and_eq_true, beq_iff_eq] at h
    obtain ⟨⟨rfl, h1⟩, h2⟩ := h
    split at h2
    · rename_i i hi
      split at h2
      · rename_i cs hz
        exact ⟨e, i, cs, hu, h1, hi, hz, by simpa using h2⟩
      · cases h2
    · cases h2
  · cases h

variable {n : Nat} {σ : Env} {o : Oper}
theorem val_lookupMiss {kt r g : Nat} {x y : Operand} {es : Array MapEntry} {clock : Nat} {M : List Nat} {L : List Value} {e : TypeId} {b : Option Addr} {k : IntKind} {z : Int} (ho : o.op = .lookup t x y true) (hx : ev σ x = some (.map (some r))) (hy : ev σ y = some (.agg #[.pointer (some ⟨g, 0, none⟩), .pointer b, .int k z]))
    (hP : mapOk P t kt = true) (hm : w.heap[r]? = some (.map es clock)) (hk : KeysIn M es.toList) (hb : Blk w g L e) (hM : ∀ g' ∈ M, ∃ L e, Blk w g' L e) (hg : g ∉ M) : Val P n σ o w (.tuple #[.agg #[], .bool false]) := by
  intro a ha
  obtain ⟨et, i, cs, hu, hp, hi, hz, rfl⟩ := mapOk_spec hP
  have h1 := run_checkKey_place (w := w) hp es.isEmpty (some ⟨g, 0, none⟩) b k z
  have h2 := run_findKey_miss hp hb hM hg (.pointer b) (.int k z) es.toList hk
  simp [execOp, ho, ha.eval hx, ha.eval hy, Instr.lookup, run_underlying hu, MapKept.run_getObj_map hm, h1, h2, zeroValue, typeInfo, hi, hz]

theorem opTo_updateMiss {kt r g : Nat} {x y u : Operand} {v : Value} {es : Array MapEntry} {clock : Nat} {M : List Nat} {L : List Value} {e : TypeId} {b : Option Addr} {k : IntKind} {z : Int} {K : Value → World → Prop} (ho : o.op = .mapUpdate t x y u) (hx : ev σ x = some (.map (some r))) (hy : ev σ y = some (.agg #[.pointer (some ⟨g, 0, none⟩), .pointer b, .int k z])) (hv : ev σ u = some v)
    (hP : mapOk P t kt = true) (hm : w.heap[r]? = some (.map es clock)) (hk : KeysIn M es.toList) (hb : Blk w g L e) (hM : ∀ g' ∈ M, ∃ L e, Blk w g' L e) (hg : g ∉ M)
    (hK : ∀ w1, w1.heap.size = w.heap.size → Keep [r] w w1 → (∃ es' clock', w1.heap[r]? = some (.map es' clock') ∧ KeysIn (g :: M) es'.toList) → K undef w1) : OpTo P n σ o w K := by
  obtain ⟨et, i, cs, hu, hp, hi, hz, rfl⟩ := mapOk_spec hP
  have h1 := run_checkKey_place (w := w) hp false (some ⟨g, 0, none⟩) b k z
  have h2 := run_findKey_miss hp hb hM hg (.pointer b) (.int k z) es.toList hk
  refine opTo_skip (w' := { w with heap := w.heap.setIfInBounds r (.map (es.push { key := .agg #[.pointer (some ⟨g, 0, none⟩), .pointer b, .int k z], val := v, born := clock }) (clock + 1)) }) (fun a ha => ?_) (hK _ (by simp) ⟨rfl, rfl, rfl, by simp, fun k hk hn => ?_⟩ ⟨es.push { key := .agg #[.pointer (some ⟨g, 0, none⟩), .pointer b, .int k z], val := v, born := clock }, clock + 1, ?_, ?_⟩)
  · simp [execOp, ho, ha.eval hx, ha.eval hy, ha.eval hv, Instr.mapUpdate, run_underlying hu, MapKept.run_getObj_map hm, h1, h2, MapKept.run_setObj_map _ hm]
  · simp at hn
    simp [Array.getElem?_setIfInBounds_ne (Ne.symm hn)]
  · have : r < w.heap.size := (Array.getElem?_eq_some_iff.1 hm).1
    simp [this]
  · intro y hy
    simp only [Array.toList_push, List.mem_append, List.mem_singleton] at hy
    rcases hy with hy | rfl
    · obtain ⟨g', hg', r⟩ := hk y hy
      exact ⟨g', by simp [hg'], r⟩
    · exact ⟨g, by simp, _, _, rfl⟩

theorem opTo_makeMap {K : Value → World → Prop} (ho : o.op = .makeMap t none) (hK : ∀ w1 r, r = w.heap.size → w1.heap.size = r + 1 → Keep [] w w1 → w1.heap[r]? = some (.map #[] 0) → K (.map (some r)) w1) : OpTo P n σ o w K := by
  refine opTo_run (w' := w.alloc (.map #[] 0)) (v := .map (some w.heap.size)) (fun a ha => ?_) (hK _ _ rfl (World.size_alloc _ _) ((Keep.refl _ _).alloc _) (heap_alloc_new w _))
  simp [execOp, ho, Instr.makeMap, newObj, Sem.run]
end
end E
end Go.Proofs.Ytpbdjpoohpocfab
