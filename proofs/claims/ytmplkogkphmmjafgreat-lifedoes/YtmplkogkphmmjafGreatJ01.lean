/- Several texts in one: Ops, Mem, Ints, TreeA, CodeM. -/
import Derived.Test.YtmplkogkphmmjafGreatEng
import Derived.Laws.Tables
import Derived.Laws.Entries
import Derived.Below
import Derived.ChangeKeysEq
/- The laws of single operations for the engine: what an operation makes of its slots and of the world. -/
namespace Go.Proofs.YtmplkogkphmmjafGreat
set_option maxRecDepth 20000
set_option maxHeartbeats 4000000
namespace E

def find {β : Type} : List (Nat × β) → Nat → Option β
  | [], _ => none
  | (s, v) :: r, t => match Nat.beq s t with
    | true => some v
    | false => find r t

theorem find_mem {β : Type} : ∀ {l : List (Nat × β)} {t : Nat} {x : β}, find l t = some x → (t, x) ∈ l
  | [], _, _, h => by simp [find] at h
  | (s, y) :: r, t, x, h => by
    unfold find at h
    cases hb : Nat.beq s t with
    | true =>
      have hb' := Nat.eq_of_beq_eq_true hb
      subst hb'
      simp at h
      subst h
      simp
    | false =>
      simp only [hb] at h
      exact List.mem_cons_of_mem _ (find_mem h)

/-- What a proof needs to know of a program's types: the fields' places, the slices' and arrays' elements, how many cells. -/
structure Tbl where
  fld : List (Nat × List (Nat × Nat))
  sl : List (Nat × Nat)
  ar : List (Nat × (Nat × Nat))
  one : List (Nat × Unit)
  ag : List (Nat × Nat)

def fldOk (P : Program) (s f off : Nat) : Bool :=
  match P.underlying s with
  | some (.struct fs) => match fs[f]? with
    | some d => d.offset == off && (match P.info? d.type with | some i => i.size != 0 | none => false)
    | none => false
  | _ => false
def sizeOk (P : Program) (t n : Nat) : Bool :=
  match P.info? t with
  | some i => i.size == n
  | none => false
def slOk (P : Program) (t n : Nat) : Bool :=
  match P.underlying t with
  | some (.slice e) => sizeOk P e n
  | _ => false
def arOk (P : Program) (t len n : Nat) : Bool :=
  match P.underlying t with
  | some (.array l e) => l == len && sizeOk P e n
  | _ => false
def oneOk (P : Program) (t : Nat) : Bool :=
  match P.underlying t with
  | some (.struct _) | some (.array _ _) | none => false
  | some _ => sizeOk P t 1
def agOk (P : Program) (t n : Nat) : Bool :=
  match P.underlying t with
  | some (.struct _) | some (.array _ _) => sizeOk P t n
  | _ => false
def Tbl.check (T : Tbl) (P : Program) : Bool :=
  (T.fld.all fun p => p.2.all fun q => fldOk P p.1 q.1 q.2) && (T.sl.all fun p => slOk P p.1 p.2) && (T.ar.all fun p => arOk P p.1 p.2.1 p.2.2) && (T.one.all fun p => oneOk P p.1) && (T.ag.all fun p => agOk P p.1 p.2)

def Tbl.fldAt (T : Tbl) (s f : Nat) : Option Nat :=
  match find T.fld s with
  | some l => find l f
  | none => none

section
variable {P : Program} {T : Tbl} {n : Nat} {σ : Env} {o : Oper} {w : World} {v : Value}

theorem Tbl.fld_ok (hT : T.check P = true) {s f off : Nat} (h : T.fldAt s f = some off) : fldOk P s f off = true := by
  simp only [Tbl.check, Bool.and_eq_true] at hT
  unfold Tbl.fldAt at h
  cases hs : find T.fld s with
  | none => simp [hs] at h
  | some l =>
    simp only [hs] at h
    exact List.all_eq_true.1 (List.all_eq_true.1 hT.1.1.1.1 _ (find_mem hs)) _ (find_mem h)
theorem Tbl.sl_ok (hT : T.check P = true) {t m : Nat} (h : find T.sl t = some m) : slOk P t m = true := by
  simp only [Tbl.check, Bool.and_eq_true] at hT
  exact List.all_eq_true.1 hT.1.1.1.2 _ (find_mem h)
theorem Tbl.ar_ok (hT : T.check P = true) {t : Nat} {m : Nat × Nat} (h : find T.ar t = some m) : arOk P t m.1 m.2 = true := by
  simp only [Tbl.check, Bool.and_eq_true] at hT
  exact List.all_eq_true.1 hT.1.1.2 _ (find_mem h)
theorem Tbl.one_ok (hT : T.check P = true) {t : Nat} (h : find T.one t = some ()) : oneOk P t = true := by
  simp only [Tbl.check, Bool.and_eq_true] at hT
  exact List.all_eq_true.1 hT.1.2 _ (find_mem h)
theorem Tbl.ag_ok (hT : T.check P = true) {t m : Nat} (h : find T.ag t = some m) : agOk P t m = true := by
  simp only [Tbl.check, Bool.and_eq_true] at hT
  exact List.all_eq_true.1 hT.2 _ (find_mem h)

theorem sizeOk_run {t m : Nat} (h : sizeOk P t m = true) (w : World) : (sizeOf t).run P w = .ok m w := by
  unfold sizeOk at h
  cases hi : P.info? t with
  | none => simp [hi] at h
  | some i =>
    simp only [hi, beq_iff_eq] at h
    simp [sizeOf, typeInfo, hi, h]
theorem sizeOk_info {t m : Nat} (h : sizeOk P t m = true) : (P.info? t).map (·.size) = some m := by
  unfold sizeOk at h
  cases hi : P.info? t with
  | none => simp [hi] at h
  | some i => simpa [hi] using h

theorem fldOk_run {s f off b q : Nat} (h : fldOk P s f off = true) (w : World) : (Instr.fieldAt s (.pointer (some ⟨b, q, none⟩)) f).run P w = .ok (.pointer (some ⟨b, q + off, none⟩)) w := by
  unfold fldOk at h
  split at h
  · rename_i fs hu
    split at h
    · rename_i d hd
      simp only [Bool.and_eq_true, beq_iff_eq] at h
      obtain ⟨rfl, h2⟩ := h
      split at h2
      · rename_i i hi
        have hne : i.size ≠ 0 := by simpa using h2
        have hsz : (sizeOf d.type).run P w = .ok i.size w := by simp [sizeOf, typeInfo, hi]
        simp [Instr.fieldAt, run_underlying hu, hd, Instr.sureAddr, fieldPlace, hsz, hne, Addr.add_mid]
      · cases h2
    · cases h
  · cases h

/-- Operations that look at slots alone. -/
def pureOp (T : Tbl) (σ : Env) : Op → Option Value
  | .move x => ev σ x
  | .assign x => ev σ x
  | .pick c a b => match ev σ c with
    | some (.bool true) => ev σ a
    | some (.bool false) => ev σ b
    | _ => none
  | .nilCheck x => match ev σ x with
    | some (.pointer (some a)) => some (.pointer (some a))
    | _ => none
  | .fieldAddr s x f => match ev σ x with
    | some (.pointer (some ⟨b, q, none⟩)) => match T.fldAt s f with
      | some off => some (.pointer (some ⟨b, q + off, none⟩))
      | none => none
    | _ => none
  | .extract x i => match ev σ x with
    | some (.tuple vs) => vs[i]?
    | _ => none
  | .makeFunc fn first captured => match evs σ first.toList with
    | none => none
    | some xs => match evs σ captured.toList with
      | none => none
      | some ys => some (.func fn xs.toArray ys.toArray)
  | .unOp .not _ x => match ev σ x with
    | some (.bool b) => some (.bool !b)
    | _ => none
  | .call c => match c.callee, c.args.toList, c.argTypes.toList with
    | .builtin .len, [x], [t] => match find T.sl t with
      | none => none
      | some _ => match ev σ x with
        | some (.slice _ m _) => some (.int .i64 m)
        | _ => none
    | _, _, _ => none
  | _ => none

theorem map_eq_toArray {α β : Type} {xs : Array α} {g : α → β} {ys : List β} (h : xs.toList.map g = ys) : xs.map g = ys.toArray := by
  apply Array.ext'
  simpa using h

theorem val_pure (hT : T.check P = true) (h : pureOp T σ o.op = some v) (w : World) : Val P n σ o w v := by
  intro a ha
  unfold pureOp at h
  split at h
  · rename_i x ho; simp [execOp, ho, ha.eval h]
  · rename_i x ho; simp [execOp, ho, ha.eval h]
  · rename_i c x y ho
    split at h
    · rename_i hc; simp [execOp, ho, ha.eval hc, asBool, ha.eval h]
    · rename_i hc; simp [execOp, ho, ha.eval hc, asBool, ha.eval h]
    · cases h
  · rename_i x ho
    split at h
    · rename_i ad hx; cases h; simp [execOp, ho, ha.eval hx]
    · cases h
  · rename_i s x f ho
    split at h
    · rename_i b q hx
      split at h
      · rename_i off hf
        cases h
        simp [execOp, ho, ha.eval hx, fldOk_run (Tbl.fld_ok hT hf)]
      · cases h
    · cases h
  · rename_i x i ho
    split at h
    · rename_i vs hx
      simp [execOp, ho, ha.eval hx, Instr.extract, h]
    · cases h
  · rename_i fn first captured ho
    split at h
    · cases h
    · rename_i xs hxs
      split at h
      · cases h
      · rename_i ys hys
        cases h
        simp only [execOp, ho]
        rw [map_eq_toArray (ha.evals hxs), map_eq_toArray (ha.evals hys)]
        simp [Instr.makeFunc]
  · rename_i t x ho
    split at h
    · rename_i b hx
      cases h
      simp [execOp, ho, ha.eval hx, Op.unary]
    · cases h
  · rename_i c ho
    split at h
    · rename_i x t hcal hargs htys
      split at h
      · cases h
      · rename_i m hm
        split at h
        · rename_i ad len cap hx
          cases h
          have hs := Tbl.sl_ok hT hm
          unfold slOk at hs
          split at hs
          · rename_i e hu
            have e1 : c.args = #[x] := Array.ext' hargs
            have e2 : c.argTypes = #[t] := Array.ext' htys
            simp [execOp, ho, resolve, hcal, e1, e2, invoke, builtin, Builtin.len_, run_underlying hu, ha.eval hx, goInt]
          · cases hs
        · cases h
    · cases h
  · cases h

section
variable {f : Nat} {ops : Array Oper} {k : List Item} {R : Post}
theorem pl_pure {l : List Oper} (hT : T.check P = true) (hg : guardOf ops σ o.guard = some true) (hv : pureOp T σ o.op = some v) (hd : dstOk n o.dst = true)
    (h : Pl P f n ops k R l (put σ o.dst v) w) : Pl P f n ops k R (o :: l) σ w := pl_val v hg hd (val_pure hT hv w) h
theorem dr_pure {S : World → Prop} {T' : List Nat} {fuel m : Nat} (i : Nat) (hT : T.check P = true) (ho : ops[i]? = some o) (hk : takeOk ops m i = true) (hg : guardOf ops σ o.guard = some true)
    (hv : pureOp T σ o.op = some v) (hd : dstOk n o.dst = true) (h : Dr P f n ops k R S T' fuel (m ||| 2 ^ i) (put σ o.dst v) w) : Dr P f n ops k R S T' (fuel + 1) m σ w :=
  dr_any i v ho hk hg hd (fun w => val_pure hT hv w) h
end

/-! ### Integers -/
def intOp (op : BinOp) (k : IntKind) (a b : Int) : Option Value :=
  match op with
  | .add => some (.int k (k.wrap (a + b)))
  | .sub => some (.int k (k.wrap (a - b)))
  | .mul => some (.int k (k.wrap (a * b)))
  | .rem => if b = 0 then none else some (.int k (a.tmod b))
  | .and => some (.int k (k.wrap (BitVec.ofInt k.bits a &&& BitVec.ofInt k.bits b).toNat))
  | .eql => some (.bool (a == b))
  | .neq => some (.bool (a != b))
  | .lss => some (.bool (a < b))
  | .leq => some (.bool (a ≤ b))
  | .gtr => some (.bool (a > b))
  | .geq => some (.bool (a ≥ b))
  | _ => none

theorem val_int {op : BinOp} {t t' : TypeId} {x y : Operand} (k : IntKind) (a b : Int) (r : Value) (ho : o.op = .binOp op t x y t') (hx : ev σ x = some (.int k a)) (hy : ev σ y = some (.int k b))
    (hr : intOp op k a b = some r) (w : World) : Val P n σ o w r := by
  intro ac ha
  cases op <;> simp only [intOp] at hr <;> first
    | (cases hr; done)
    | (cases hr; simp [execOp, ho, ha.eval hx, ha.eval hy, eqGuard, binOp, Op.intArith, Op.intCmp, Op.intBits]; done)
    | (split at hr
       · cases hr
       · rename_i hb
         cases hr
         simp [execOp, ho, ha.eval hx, ha.eval hy, eqGuard, binOp, Op.intDiv, hb])

theorem wrap_i64 {x : Int} (h1 : -9223372036854775808 ≤ x) (h2 : x < 9223372036854775808) : IntKind.i64.wrap x = x := by
  have e : IntKind.i64.wrap x = if x % 18446744073709551616 ≥ 9223372036854775808 then x % 18446744073709551616 - 18446744073709551616 else x % 18446744073709551616 := by
    simp [IntKind.wrap, IntKind.bits, IntKind.signed]
  rw [e]
  split <;> omega
theorem wrap_u64 {x : Int} (h1 : 0 ≤ x) (h2 : x < 18446744073709551616) : IntKind.u64.wrap x = x := by
  have e : IntKind.u64.wrap x = x % 18446744073709551616 := by
    simp [IntKind.wrap, IntKind.bits, IntKind.signed]
  rw [e]
  omega

theorem val_shr {t t' : TypeId} {x y : Operand} (k k' : IntKind) (a b : Int) (r : Int) (ho : o.op = .binOp .shr t x y t') (hx : ev σ x = some (.int k a)) (hy : ev σ y = some (.int k' b))
    (hb : 0 ≤ b) (hr : a.fdiv (2 ^ min b.toNat k.bits) = r) (w : World) : Val P n σ o w (.int k r) := by
  intro ac ha
  subst hr
  have : ¬ b < 0 := by omega
  simp [execOp, ho, ha.eval hx, ha.eval hy, eqGuard, binOp, Op.shift, this]

def convOk (P : Program) (src dst : Nat) (k : IntKind) : Bool :=
  match P.underlying src, P.underlying dst with
  | some _, some (.int k') => decide (k' = k)
  | _, _ => false

theorem val_conv {src dst : TypeId} {x : Operand} (k k' : IntKind) (a r : Int) (ho : o.op = .convert src dst x) (hx : ev σ x = some (.int k a)) (hc : convOk P src dst k' = true) (hr : k'.wrap a = r) (w : World) : Val P n σ o w (.int k' r) := by
  intro ac ha
  subst hr
  unfold convOk at hc
  split at hc
  · rename_i d k2 h1 h2
    have hk : k2 = k' := by simpa using hc
    subst hk
    cases d <;> simp [execOp, ho, ha.eval hx, convert, run_underlying h1, run_underlying h2, Conv.intToInt]
  · cases hc

/-! ### Memory -/
/-- A block that is known whole. -/
def Blk (w : World) (b : Nat) (L : List Value) (e : TypeId) : Prop := w.heap[b]? = some (.cells L.toArray e (0, 0))

theorem Blk.lt {b : Nat} {L : List Value} {e : TypeId} (h : Blk w b L e) : b < w.heap.size := (Array.getElem?_eq_some_iff.1 h).1
theorem Blk.drew {b : Nat} {L : List Value} {e : TypeId} (h : Blk w b L e) : Blk w.drew b L e := h
theorem Blk.alloc {b : Nat} {L : List Value} {e : TypeId} (h : Blk w b L e) (ob : Obj) : Blk (w.alloc ob) b L e := (heap_alloc_old w ob b h.lt).trans h
theorem Blk.new (w : World) (L : List Value) (e : TypeId) : Blk (w.alloc (.cells L.toArray e)) w.heap.size L e := heap_alloc_new w _
theorem Blk.set {b : Nat} {L : List Value} {e : TypeId} (h : Blk w b L e) (L' : List Value) : Blk (w.setRow b L'.toArray) b L' e := setRow_heap w b _ _ e _ h
theorem Blk.other {b c : Nat} {L : List Value} {e : TypeId} (h : Blk w b L e) (X : Array Value) (hne : b ≠ c) : Blk (w.setRow c X) b L e := by
  unfold Blk at *
  rw [setRow_other w c b X hne]; exact h
theorem Blk.cell {b i : Nat} {L : List Value} {e : TypeId} (h : Blk w b L e) (hv : L[i]? = some v) : w.cell? ⟨b, i, none⟩ = some v := by
  unfold Blk at h
  simp only [World.cell?, h]
  simpa using hv
theorem Blk.frozen {b i : Nat} {L : List Value} {e : TypeId} (h : Blk w b L e) : w.frozen? ⟨b, i, none⟩ = false := by
  unfold Blk at h
  simp [World.frozen?, h]
theorem Blk.range {b i : Nat} {L cs : List Value} {e : TypeId} (h : Blk w b L e) (hc : (L.drop i).take cs.length = cs) : w.rangeAt b i cs := fun j u hu => by
  refine h.cell ?_
  rw [← hc, List.getElem?_take] at hu
  split at hu
  · simpa using hu
  · cases hu
theorem Blk.there {b i m : Nat} {L : List Value} {e : TypeId} (h : Blk w b L e) (hl : i + m ≤ L.length) : w.there b i m := fun j hj => by
  refine ⟨?_, h.frozen⟩
  rw [h.cell (v := L[i + j]'(by omega)) (List.getElem?_eq_getElem (by omega))]
  rfl

def splice (L : List Value) (i : Nat) (vs : List Value) : List Value := L.take i ++ vs ++ L.drop (i + vs.length)
theorem splice_length {L vs : List Value} {i : Nat} (h : i + vs.length ≤ L.length) : (splice L i vs).length = L.length := by
  simp [splice]; omega

theorem setRow_setCell (w : World) (b i : Nat) (v : Value) (X : Array Value) : (w.setCell ⟨b, i, none⟩ v).setRow b X = w.setRow b X := by
  have : (w.setCell ⟨b, i, none⟩ v).setRow b X = { w with heap := ((w.heap.modify b fun | .cells c elem frozen => .cells (if (none : Option Nat).isSome then c else c.setIfInBounds i v) elem frozen | o => o).modify b fun | .cells _ elem frozen => .cells X elem frozen | o => o) } := rfl
  rw [this]
  unfold World.setRow
  congr 1
  apply Array.ext
  · simp
  · intro j h1 h2
    simp only [Array.getElem_modify]
    by_cases e : b = j
    · subst e
      simp only [if_true]
      cases w.heap[b]'(by simpa using h2) <;> rfl
    · simp [e]

theorem setCells_eq {e : TypeId} : ∀ (vs : List Value) (w : World) (b i : Nat) (L : List Value), Blk w b L e → i + vs.length ≤ L.length → w.setCells b i vs = w.setRow b (splice L i vs).toArray
  | [], w, b, i, L, h, _ => by
    have hs : splice L i [] = L := by simp [splice]
    rw [hs]
    unfold World.setCells World.setRow
    cases w with
    | mk heap tape drawn os output =>
      congr 1
      apply Array.ext
      · simp
      · intro j h1 h2
        simp only [Array.getElem_modify]
        by_cases ej : b = j
        · subst ej
          have hb : heap[b] = .cells L.toArray e (0, 0) := by
            have := h
            unfold Blk at this
            simpa [Array.getElem?_eq_some_iff, h1] using this
          simp [hb]
        · simp [ej]
  | v :: r, w, b, i, L, h, hl => by
    simp only [List.length_cons] at hl
    have h1 : Blk (w.setCell ⟨b, i, none⟩ v) b (L.set i v) e := by
      unfold Blk at *
      simp only [World.setCell, Array.getElem?_modify, if_true, h, Option.map_some]
      simp
    rw [World.setCells, setCells_eq r _ b (i + 1) (L.set i v) h1 (by simp; omega), setRow_setCell]
    have hi : i < L.length := by omega
    have t1 : (L.set i v).take (i + 1) = L.take i ++ [v] := by
      rw [List.take_succ_eq_append_getElem (by simpa using hi), List.take_set_of_le (Nat.le_refl _)]
      simp
    have t2 : (L.set i v).drop (i + 1 + r.length) = L.drop (i + (r.length + 1)) := by
      rw [List.drop_set_of_lt (by omega), Nat.add_assoc, Nat.add_comm 1]
    simp only [splice, List.length_cons, t1, t2]
    simp

theorem val_load1 {t : TypeId} {x : Operand} {b i : Nat} (hT : T.check P = true) (ho : o.op = .load t x) (hx : ev σ x = some (.pointer (some ⟨b, i, none⟩))) (ht : find T.one t = some ()) (hc : w.cell? ⟨b, i, none⟩ = some v) : Val P n σ o w v := by
  intro a ha
  have hs := Tbl.one_ok hT ht
  unfold oneOk at hs
  cases hu : P.underlying t with
  | none => simp [hu] at hs
  | some d =>
    have hagg : (isAgg t).run P w = .ok false w := by
      unfold isAgg
      rw [Sem.run_bind, run_underlying hu w]
      cases d <;> simp_all
    simp [execOp, ho, ha.eval hx, Instr.loadAt, Instr.sureAddr, loadVar, hagg, hc]

theorem loadVar_agg {t b i : Nat} {cs : List Value} (hT : T.check P = true) (ht : find T.ag t = some cs.length) (hc : w.rangeAt b i cs) : (loadVar t ⟨b, i, none⟩).run P w = .ok (.agg cs.toArray) w := by
  have hs := Tbl.ag_ok hT ht
  unfold agOk at hs
  cases hu : P.underlying t with
  | none => simp [hu] at hs
  | some d =>
    have hd : d.isRow = true := by cases d <;> simp_all
    refine run_loadVar_mid w b i t cs d hc hu hd ?_
    refine sizeOk_info ?_
    cases d <;> simp_all

theorem val_load {t : TypeId} {x : Operand} {b i : Nat} (cs : List Value) (hT : T.check P = true) (ho : o.op = .load t x) (hx : ev σ x = some (.pointer (some ⟨b, i, none⟩))) (ht : find T.ag t = some cs.length) (hc : w.rangeAt b i cs) : Val P n σ o w (.agg cs.toArray) := by
  intro a ha
  simp [execOp, ho, ha.eval hx, Instr.loadAt, Instr.sureAddr, loadVar_agg hT ht hc]

theorem val_index {t : TypeId} {x ix : Operand} {b q len cap sz : Nat} {kk : IntKind} (j : Nat) {i : Int} (hT : T.check P = true) (ho : o.op = .indexAddr t x ix) (hx : ev σ x = some (.slice (some ⟨b, q, none⟩) len cap)) (hi : ev σ ix = some (.int kk i))
    (ht : find T.sl t = some sz) (hij : i = (j : Int)) (hlt : j < len) (w : World) : Val P n σ o w (.pointer (some ⟨b, q + j * sz, none⟩)) := by
  intro a ha
  subst hij
  have hs := Tbl.sl_ok hT ht
  unfold slOk at hs
  split at hs
  · rename_i e hu
    have h1 : (0 : Int) ≤ (j : Int) ∧ (j : Int) < (len : Int) := by omega
    simp [execOp, ho, ha.eval hx, ha.eval hi, Instr.indexAt, asIntOf, run_underlying hu, hlt, sizeOk_run hs, Addr.add_mid]
  · cases hs

theorem val_indexArr {t : TypeId} {x ix : Operand} {b q len sz : Nat} {kk : IntKind} (j : Nat) {i : Int} (hT : T.check P = true) (ho : o.op = .indexAddr t x ix) (hx : ev σ x = some (.pointer (some ⟨b, q, none⟩))) (hi : ev σ ix = some (.int kk i))
    (ht : find T.ar t = some (len, sz)) (hij : i = (j : Int)) (hlt : j < len) (w : World) : Val P n σ o w (.pointer (some ⟨b, q + j * sz, none⟩)) := by
  intro a ha
  subst hij
  have hs := Tbl.ar_ok hT ht
  unfold arOk at hs
  split at hs
  · rename_i l e hu
    simp only [Bool.and_eq_true, beq_iff_eq] at hs
    obtain ⟨rfl, hs⟩ := hs
    simp [execOp, ho, ha.eval hx, ha.eval hi, Instr.indexAt, Instr.sureAddr, asIntOf, run_underlying hu, hlt, sizeOk_run hs, Addr.add_mid]
  · cases hs

theorem val_sliceArr {t : TypeId} {x : Operand} {b q len sz : Nat} (hT : T.check P = true) (ho : o.op = .slice t x none none none) (hx : ev σ x = some (.pointer (some ⟨b, q, none⟩))) (ht : find T.ar t = some (len, sz)) (w : World) : Val P n σ o w (.slice (some ⟨b, q, none⟩) len len) := by
  intro a ha
  have hs := Tbl.ar_ok hT ht
  unfold arOk at hs
  split at hs
  · rename_i l e hu
    simp only [Bool.and_eq_true, beq_iff_eq] at hs
    obtain ⟨rfl, hs⟩ := hs
    simp [execOp, ho, ha.eval hx, Instr.sliceAt, Instr.sliceBounds, Instr.sureAddr, run_underlying hu, sizeOk_run hs, Addr.add]
  · cases hs

/-- A slice that is not nil, held against nil. -/
theorem val_notNil {t t' : TypeId} {x : Operand} {ad : Addr} {len cap sz : Nat} (hT : T.check P = true) (ho : o.op = .binOp .eql t x (.const (.slice none 0 0)) t') (hx : ev σ x = some (.slice (some ad) len cap)) (ht : find T.sl t = some sz) (w : World) : Val P n σ o w (.bool false) := by
  intro a ha
  have hs := Tbl.sl_ok hT ht
  unfold slOk at hs
  split at hs
  · rename_i e hu
    have he : ∀ d, (Op.equalIn (d + 1) t (.slice (some ad) len cap) (.slice none 0 0)).run P w = .ok false w := fun d => by
      simp [Op.equalIn, run_underlying hu]
    have he' : (Op.equal t (.slice (some ad) len cap) (.slice none 0 0)).run P w = .ok false w := he 9999
    have hc : a.eval (.const (.slice none 0 0)) = .slice none 0 0 := rfl
    simp [execOp, ho, ha.eval hx, hc, eqGuard, binOp, he']
  · cases hs

theorem opTo_store {t : TypeId} {x y : Operand} {b i : Nat} {L : List Value} {e : TypeId} {K : Value → World → Prop} (cs : List Value) (ho : o.op = .store t x y) (hx : ev σ x = some (.pointer (some ⟨b, i, none⟩))) (hy : ev σ y = some v) (hc : v.cells = cs.toArray)
    (hz : sizeOk P t cs.length = true) (hb : Blk w b L e) (hl : i + cs.length ≤ L.length) (h1 : ∀ u ∈ cs, u.oneCell' = true) (hK : K undef (w.setRow b (splice L i cs).toArray)) : OpTo P n σ o w K := by
  refine opTo_skip (w' := w.setRow b (splice L i cs).toArray) (fun a ha => ?_) hK
  have hth := hb.there hl
  have hst := run_storeCells_cells (P := P) b i cs 0 w (fun j hj => by simpa using (hth j hj).1) (fun j hj => by simpa using (hth j hj).2) h1
  rw [Nat.add_zero, setCells_eq cs w b i L hb hl] at hst
  simp [execOp, ho, ha.eval hx, ha.eval hy, Instr.storeAt, Instr.sureAddr, storeVar, sizeOk_run hz, hst, hc]

theorem opTo_box {t : TypeId} {x : Operand} {K : Value → World → Prop} (cs : List Value) (ho : o.op = .box t x) (hx : ev σ x = some v) (hc : v.cells = cs.toArray) (hK : K (.pointer (some ⟨w.heap.size, 0, none⟩)) (w.alloc (.cells cs.toArray t))) : OpTo P n σ o w K := by
  refine opTo_run (w' := w.alloc (.cells cs.toArray t)) (fun a ha => ?_) hK
  simp [execOp, ho, ha.eval hx, Instr.box, newVar, newRow, newObj, Sem.run, hc]

theorem opTo_alloc {t : TypeId} (cs : List Value) {K : Value → World → Prop} (ho : o.op = .alloc t) (hz : ((P.info? t).bind (·.zero)).map (·.cells) = some cs.toArray) (hK : K (.pointer (some ⟨w.heap.size, 0, none⟩)) (w.alloc (.cells cs.toArray t))) : OpTo P n σ o w K := by
  refine opTo_run (w' := w.alloc (.cells cs.toArray t)) (fun a _ => ?_) hK
  cases hi : P.info? t with
  | none => simp [hi] at hz
  | some i =>
    cases hzz : i.zero with
    | none => simp [hi, hzz] at hz
    | some z =>
      have hc : z.cells = cs.toArray := by simpa [hi, hzz] using hz
      simp [execOp, ho, Instr.alloc, zeroValue, typeInfo, hi, hzz, newVar, newRow, newObj, Sem.run, hc]

def evParts (σ : Env) : List (Nat × Operand) → Option (List (Nat × Value))
  | [] => some []
  | p :: r => match ev σ p.2 with
    | none => none
    | some v => match evParts σ r with
      | none => none
      | some vs => some ((p.1, v) :: vs)
theorem Fr.parts {a : Act} (h : Fr n σ a) : ∀ {ps : List (Nat × Operand)} {vs : List (Nat × Value)}, evParts σ ps = some vs → (ps.map fun (i, x) => (i, a.eval x)) = vs
  | [], vs, hv => by simp [evParts] at hv; subst hv; rfl
  | p :: r, vs, hv => by
    simp only [evParts] at hv
    cases hx : ev σ p.2 with
    | none => simp [hx] at hv
    | some v =>
      cases hr : evParts σ r with
      | none => simp [hx, hr] at hv
      | some us =>
        simp only [hx, hr, Option.some.injEq] at hv
        subst hv
        simp [h.eval hx, h.parts hr]

theorem val_build {t : TypeId} {ps : Array (Nat × Operand)} {vs : List (Nat × Value)} (cells : List Value) (ho : o.op = .build t ps) (hv : evParts σ ps.toList = some vs) (hb : P.built t vs = some cells.toArray) (w : World) : Val P n σ o w (.agg cells.toArray) := by
  intro a ha
  have he := map_eq_toArray (ha.parts hv)
  simp only [execOp, ho]
  rw [he, Sem.run_bind, run_build w t vs.toArray cells.toArray (by simpa using hb)]
  rfl

/-- The row that a slice's literal makes. -/
def sliceCells (P : Program) (t len : Nat) (parts : List (Nat × Value)) : Option (TypeId × Array Value) :=
  match P.underlying t with
  | some (.slice e) => match P.info? e with
    | some i => if len * i.size > 2 ^ 24 then none else
      if len * i.size = 0 then (Instr.fill (fun j => some (j * i.size, i.size)) ((Array.range (len * i.size)).map fun x => ((#[] : Array Value)[x % 0]!)) parts).map fun c => (e, c)
      else match i.zero with
        | some z => (Instr.fill (fun j => some (j * i.size, i.size)) ((Array.range (len * i.size)).map fun x => (z.cells[x % z.cells.size]!)) parts).map fun c => (e, c)
        | none => none
    | none => none
  | _ => none

theorem opTo_buildSlice {t len : Nat} {ps : Array (Nat × Operand)} {vs : List (Nat × Value)} (e : TypeId) (cells : List Value) {K : Value → World → Prop} (ho : o.op = .buildSlice t len ps) (hv : evParts σ ps.toList = some vs)
    (hb : sliceCells P t len vs = some (e, cells.toArray)) (hK : K (.slice (some ⟨w.heap.size, 0, none⟩) len len) (w.alloc (.cells cells.toArray e))) : OpTo P n σ o w K := by
  refine opTo_run (w' := w.alloc (.cells cells.toArray e)) (fun a ha => ?_) hK
  have he := map_eq_toArray (ha.parts hv)
  simp only [execOp, ho]
  rw [he]
  unfold sliceCells at hb
  split at hb
  · rename_i e' hu
    split at hb
    · rename_i i hi
      split at hb
      · cases hb
      · rename_i hle
        split at hb
        · rename_i h0
          simp only [Option.map_eq_some_iff, Prod.mk.injEq] at hb
          obtain ⟨c, hc, rfl, rfl⟩ := hb
          simp only [Instr.buildSlice, Sem.run_bind, run_underlying hu, Result.andThen_ok, sizeOf, typeInfo, Sem.run_pure]
          simp [program, Sem.run, hi, h0, newRow, newObj] at hc ⊢
          simp [hc, Sem.run]
        · rename_i h0
          split at hb
          · rename_i z hz
            simp only [Option.map_eq_some_iff, Prod.mk.injEq] at hb
            obtain ⟨c, hc, rfl, rfl⟩ := hb
            simp [Instr.buildSlice, run_underlying hu, sizeOf, typeInfo, zeroValue, hi, hle, h0, hz, hc, newRow, newObj, Sem.run]
          · cases hb
    · cases hb
  · cases hb

/-! ### Calls -/
def callable (P : Program) (g : Nat) : Bool :=
  match P.funcs[g]? with
  | some fn => !(fn.name == "runtime.NumGoroutine") && fn.body.isSome
  | none => false

theorem opTo_call {c : Call} {x : Operand} {g : Nat} {fst vs cap : List Value} {K : Value → World → Prop} (ho : o.op = .call c) (hc : c.callee = .value x) (hx : ev σ x = some (.func (.func g) fst.toArray cap.toArray)) (hv : evs σ c.args.toList = some vs)
    (hg : callable P g = true) (hK : Ret P g (fst ++ vs ++ cap) w K) : OpTo P n σ o w K := fun a ha next Q hn => by
  have hargs := map_eq_toArray (ha.evals hv)
  have hrun : (execOp a.eval o).run P w = .ok (.enter g (fst ++ vs ++ cap).toArray) w := by
    unfold callable at hg
    split at hg
    · rename_i fn hfn
      simp only [Bool.and_eq_true, Bool.not_eq_true'] at hg
      have hbody : ¬ fn.body = none := by
        intro hb
        simp [hb] at hg
      have hname : ¬ fn.name = "runtime.NumGoroutine" := by simpa using hg.1
      simp [execOp, ho, resolve, hc, hargs, ha.eval hx, Deferred.ofValue, invoke, callFunc, hfn, hname, hbody]
    · cases hg
  simp only [Oper.wp, hrun, Oper.upon]
  refine Calls.mono hK fun e w' he => ?_
  obtain ⟨v, rfl, hv⟩ := he
  exact hn v w' hv

/-- A call that may panic. -/
theorem opE_call {c : Call} {x : Operand} {g : Nat} {fst vs cap : List Value} {K Kp : Value → World → Prop} (ho : o.op = .call c) (hc : c.callee = .value x) (hx : ev σ x = some (.func (.func g) fst.toArray cap.toArray)) (hv : evs σ c.args.toList = some vs)
    (hg : callable P g = true) (hK : End P g (fst ++ vs ++ cap) w K Kp) : OpE P n σ o w K Kp := fun a ha next Q hn hp => by
  have hargs := map_eq_toArray (ha.evals hv)
  have hrun : (execOp a.eval o).run P w = .ok (.enter g (fst ++ vs ++ cap).toArray) w := by
    unfold callable at hg
    split at hg
    · rename_i fn hfn
      simp only [Bool.and_eq_true, Bool.not_eq_true'] at hg
      have hbody : ¬ fn.body = none := by
        intro hb
        simp [hb] at hg
      have hname : ¬ fn.name = "runtime.NumGoroutine" := by simpa using hg.1
      simp [execOp, ho, resolve, hc, hargs, ha.eval hx, Deferred.ofValue, invoke, callFunc, hfn, hname, hbody]
    · cases hg
  simp only [Oper.wp, hrun, Oper.upon]
  refine Calls.mono hK fun e w' he => ?_
  rcases he with ⟨v, rfl, hv⟩ | ⟨v, rfl, hv⟩
  · exact hn v w' hv
  · exact hp v w' hv
end

/-! ### Steps that are taken by themselves: what is left to be shown is what they come to -/
/-- What is left to be shown, shut away. -/
structure Bx (p : Prop) : Prop where
  out : p
/-- All steps that look at slots alone. -/
theorem au {G X : Prop} (x : X) (h : Bx X → G := by (intro z; (repeat (first | refine pl_pure hT rfl rfl rfl ?_ | refine pl_nil ?_ | refine rn_seq ?_ | refine rn_plain ?_ | refine rn_block ?_ | refine rn_inBlock ?_ | refine rn_skip ?_ | refine rn_true rfl ?_ | refine rn_false rfl ?_ | refine rn_exit rfl ?_ | refine pl_not rfl rfl ?_)); exact z.out)) : G := h ⟨x⟩
/-- The same, ahead of the next statement. -/
theorem auj {G X : Prop} (x : X) (h : Bx X → G := by (intro z; (repeat (first | refine pl_pure hT rfl rfl rfl ?_ | refine pl_not rfl rfl ?_ | refine pl_nil ?_ | refine rn_inBlock ?_ | refine rn_skip ?_ | refine rn_true rfl ?_ | refine rn_false rfl ?_ | refine rn_exit rfl ?_)); exact z.out)) : G := h ⟨x⟩
/-- With loads and comparisons. -/
theorem aub {G X : Prop} (x : X) (h : Bx X → G := by (intro z; (repeat (first | refine pl_pure hT rfl rfl rfl ?_ | refine pl_nil ?_ | refine rn_seq ?_ | refine rn_plain ?_ | refine rn_block ?_ | refine rn_inBlock ?_ | refine rn_skip ?_ | refine rn_true rfl ?_ | refine rn_false rfl ?_ | refine rn_exit rfl ?_ | refine pl_not rfl rfl ?_ | refine pl_val _ rfl rfl (val_load1 hT rfl rfl rfl (Blk.cell (by assumption) (by rfl))) ?_ | refine pl_yes rfl rfl rfl rfl rfl (by first | (simp only [cmpP]; omega) | (simp [cmpP]; done) | (simp [cmpP]; omega)) ?_ | refine pl_no rfl rfl rfl rfl rfl rfl (by first | (simp only [cmpP]; omega) | (simp [cmpP]; done) | (simp [cmpP]; omega)) ?_)); exact z.out)) : G := h ⟨x⟩
/-- With loads and comparisons, ahead of the next statement. -/
theorem aubj {G X : Prop} (x : X) (h : Bx X → G := by (intro z; (repeat (first | refine pl_pure hT rfl rfl rfl ?_ | refine pl_nil ?_ | refine rn_inBlock ?_ | refine rn_skip ?_ | refine rn_true rfl ?_ | refine rn_false rfl ?_ | refine rn_exit rfl ?_ | refine pl_not rfl rfl ?_ | refine pl_val _ rfl rfl (val_load1 hT rfl rfl rfl (Blk.cell (by assumption) (by rfl))) ?_ | refine pl_yes rfl rfl rfl rfl rfl (by first | (simp only [cmpP]; omega) | (simp [cmpP]; done) | (simp [cmpP]; omega)) ?_ | refine pl_no rfl rfl rfl rfl rfl rfl (by first | (simp only [cmpP]; omega) | (simp [cmpP]; done) | (simp [cmpP]; omega)) ?_)); exact z.out)) : G := h ⟨x⟩
/-- A comparison that is so. -/
theorem ye {G X : Prop} (x : X) (h : Bx X → G := by (intro z; refine pl_yes rfl rfl rfl rfl rfl (by first | (simp only [cmpP]; omega) | (simp [cmpP]; done) | (simp [cmpP]; omega)) ?_; exact z.out)) : G := h ⟨x⟩
/-- A comparison that is not so. -/
theorem nay {G X : Prop} (x : X) (h : Bx X → G := by (intro z; refine pl_no rfl rfl rfl rfl rfl rfl (by first | (simp only [cmpP]; omega) | (simp [cmpP]; done) | (simp [cmpP]; omega)) ?_; exact z.out)) : G := h ⟨x⟩
/-- Of number i of a region that draws its order. -/
def Tg (_ : Nat) (p : Prop) : Prop := p
section
variable {P : Program} {T : Tbl} {n f fuel m i : Nat} {ops : Array Oper} {k : List Item} {R : Post} {S : World → Prop} {T' : List Nat} {σ : Env} {o : Oper} {w : World} {v : Value}
theorem tg_id {p : Prop} : Tg i (p → p) := id
theorem tg_pure (hT : T.check P = true) (ho : ops[i]? = some o) (hk : takeOk ops m i = true) (hg : guardOf ops σ o.guard = some true) (hv : pureOp T σ o.op = some v) (hd : dstOk n o.dst = true) :
    Tg i (Dr P f n ops k R S T' fuel (m ||| 2 ^ i) (put σ o.dst v) w → Dr P f n ops k R S T' (fuel + 1) m σ w) := fun h => dr_pure i hT ho hk hg hv hd h
theorem tg_not (ho : ops[i]? = some o) (hk : takeOk ops m i = true) (hg : guardOf ops σ o.guard = some false) (hd : dstOk n o.dst = true) :
    Tg i (Dr P f n ops k R S T' fuel (m ||| 2 ^ i) (put σ o.dst undef) w → Dr P f n ops k R S T' (fuel + 1) m σ w) := fun h => dr_not i ho hk hg hd h
theorem tg_val (ho : ops[i]? = some o) (hk : (takeOk ops m i && waitsFor ops T' i) = true) (hg : guardOf ops σ o.guard = some true) (hd : dstOk n o.dst = true) (hv : ∀ w, S w → Val P n σ o w v) (hS : S w) :
    Tg i (Dr P f n ops k R S T' fuel (m ||| 2 ^ i) (put σ o.dst v) w → Dr P f n ops k R S T' (fuel + 1) m σ w) := fun h => dr_val i v ho hk hg hd hv hS h
end
/-- It is taken: it looks at slots alone. -/
theorem tk {G X : Prop} (i : Nat) (x : X) (h : Tg i (X → G) := by exact tg_pure hT rfl (by decide +kernel) rfl rfl rfl) : G := h x
/-- It is taken, if it can be. -/
theorem dp {G X : Prop} (i : Nat) (x : X) (h : Tg i (X → G) := by (first | exact tg_pure hT rfl (by decide +kernel) rfl rfl rfl | exact tg_not rfl (by decide +kernel) rfl rfl | exact tg_val rfl (by decide +kernel) rfl rfl (fun w9 hS9 => val_load1 hT rfl rfl rfl (Blk.cell hS9.2 (by rfl))) hS | exact tg_yes rfl (by decide +kernel) rfl rfl rfl rfl rfl (by first | (simp only [cmpP]; omega) | (simp [cmpP]; done) | (simp [cmpP]; omega)) | exact tg_no rfl (by decide +kernel) rfl rfl rfl rfl rfl rfl (by first | (simp only [cmpP]; omega) | (simp [cmpP]; done) | (simp [cmpP]; omega)) | exact tg_id)) : G := h x
/-- A comparison that is so; that is not so. -/
theorem dye {G X : Prop} (i : Nat) (x : X) (h : Tg i (X → G) := by exact tg_yes rfl (by decide +kernel) rfl rfl rfl rfl rfl (by first | (simp only [cmpP]; omega) | (simp [cmpP]; done) | (simp [cmpP]; omega))) : G := h x
theorem dno {G X : Prop} (i : Nat) (x : X) (h : Tg i (X → G) := by exact tg_no rfl (by decide +kernel) rfl rfl rfl rfl rfl rfl (by first | (simp only [cmpP]; omega) | (simp [cmpP]; done) | (simp [cmpP]; omega))) : G := h x
end E
end Go.Proofs.YtmplkogkphmmjafGreat

/- What a call leaves alone: 'Keep fp w w'': of the blocks that lay there in w none but those of fp has turned in w'. And the law of append for the engine. -/
namespace Go.Proofs.YtmplkogkphmmjafGreat
set_option maxRecDepth 20000
set_option maxHeartbeats 4000000
namespace E

structure Keep (fp : List Nat) (w w' : World) : Prop where
  os : w'.os = w.os
  tape : w'.tape = w.tape
  output : w'.output = w.output
  size : w.heap.size ≤ w'.heap.size
  block : ∀ k, k < w.heap.size → k ∉ fp → w'.heap[k]? = w.heap[k]?

section
variable {fp fp' : List Nat} {w w' w'' : World}
theorem Keep.refl (fp : List Nat) (w : World) : Keep fp w w := ⟨rfl, rfl, rfl, Nat.le_refl _, fun _ _ _ => rfl⟩
theorem Keep.trans (h : Keep fp w w') (h' : Keep fp' w' w'') (hf : ∀ k ∈ fp', k ∈ fp ∨ w.heap.size ≤ k) : Keep fp w w'' :=
  ⟨h'.os.trans h.os, h'.tape.trans h.tape, h'.output.trans h.output, Nat.le_trans h.size h'.size, fun k hk hn =>
    (h'.block k (Nat.lt_of_lt_of_le hk h.size) (fun hm => (hf k hm).elim hn fun h1 => absurd hk (Nat.not_lt.2 h1))).trans (h.block k hk hn)⟩
theorem Keep.tr (h : Keep fp w w') (h' : Keep fp w' w'') : Keep fp w w'' := h.trans h' fun _ hk => .inl hk
theorem Keep.tr0 (h : Keep fp w w') (h' : Keep [] w' w'') : Keep fp w w'' := h.trans h' fun _ hk => by cases hk
theorem Keep.mono (h : Keep fp w w') (hf : ∀ k ∈ fp, k ∈ fp' ∨ w.heap.size ≤ k) : Keep fp' w w' := (Keep.refl fp' w).trans h hf
theorem Keep.of0 (h : Keep [] w w') : Keep fp w w' := h.mono fun _ hk => by cases hk
theorem Keep.drew (h : Keep fp w w') : Keep fp w w'.drew := ⟨h.os, h.tape, h.output, h.size, h.block⟩
theorem Keep.alloc (h : Keep fp w w') (ob : Obj) : Keep fp w (w'.alloc ob) :=
  ⟨h.os, h.tape, h.output, by rw [World.size_alloc]; exact Nat.le_succ_of_le h.size, fun k hk hn => (heap_alloc_old w' ob k (Nat.lt_of_lt_of_le hk h.size)).trans (h.block k hk hn)⟩
theorem setRow_size (w : World) (b : Nat) (X : Array Value) : (w.setRow b X).heap.size = w.heap.size := by simp [World.setRow]
theorem Keep.setRow (h : Keep fp w w') (b : Nat) (X : Array Value) (hb : b ∈ fp ∨ w.heap.size ≤ b) : Keep fp w (w'.setRow b X) :=
  ⟨h.os, h.tape, h.output, by rw [setRow_size]; exact h.size, fun k hk hn => by
    have hne : k ≠ b := fun e => hb.elim (fun h1 => hn (e ▸ h1)) fun h1 => absurd hk (Nat.not_lt.2 (e ▸ h1))
    rw [setRow_other _ b k X hne]; exact h.block k hk hn⟩
theorem Keep.grown {row : Option Nat} (h : Keep fp w w') (hg : w'.grownBy w'' row) (hr : ∀ k, row = some k → k ∈ fp ∨ w.heap.size ≤ k) : Keep fp w w'' :=
  ⟨hg.os.trans h.os, hg.tape.trans h.tape, hg.output.trans h.output, Nat.le_trans h.size hg.size, fun k hk hn =>
    (hg.block k (Nat.lt_of_lt_of_le hk h.size) (fun e => (hr k e.symm).elim hn fun h1 => absurd hk (Nat.not_lt.2 h1))).trans (h.block k hk hn)⟩
theorem Keep.blk (h : Keep fp w w') {b : Nat} {L : List Value} {e : TypeId} (hb : Blk w b L e) (hn : b ∉ fp) : Blk w' b L e := (h.block b hb.lt hn).trans hb
theorem Keep.owns (h : Keep fp w w') {base e size n : Nat} {v : Value} {xs : List Value} (ho : w.ownsRow base e size v n xs) (hn : ∀ k, v.ownBlock = some k → k ∉ fp) : w'.ownsRow base e size v n xs := by
  refine ⟨ho.1, ?_⟩
  rcases ho.2 with h0 | ⟨g, cap, cur, rfl, hb, hg, r⟩
  · exact .inl h0
  · refine .inr ⟨g, cap, cur, rfl, hb, ?_, r⟩
    rw [h.block g (Array.getElem?_eq_some_iff.1 hg).1 (hn g rfl)]
    exact hg
theorem Keep.below (h : Keep fp w w') (hf : ∀ k ∈ fp, w.heap.size ≤ k) : Go.RowKit.Below w.heap.size w w' :=
  ⟨h.os, h.tape, h.output, h.size, fun k hk => h.block k hk fun hm => by have := hf k hm; omega⟩
end

theorem owns_range {w : World} {base e size n g cap q : Nat} {xs cs : List Value} (h : w.ownsRow base e size (.slice (some ⟨g, 0, none⟩) n cap) n xs) (hc : (xs.drop q).take cs.length = cs) : w.rangeAt g q cs := fun j u hu => by
  rw [← hc, List.getElem?_take] at hu
  split at hu
  · have := h.cells (g := g) rfl (q + j) u (by simpa using hu)
    rwa [Addr.add_mid, Nat.zero_add] at this
  · cases hu

theorem flat_at {α : Type} {f : α → List Value} {k : Nat} : ∀ {L : List α} {j : Nat} {p : α}, (∀ p ∈ L, (f p).length = k) → L[j]? = some p → ((L.flatMap f).drop (j * k)).take k = f p
  | [], _, _, _, h => by simp at h
  | a :: r, 0, p, hk, h => by
    simp at h
    subst h
    have := hk a (by simp)
    simp [← this]
  | a :: r, j + 1, p, hk, h => by
    simp only [List.getElem?_cons_succ] at h
    have ha := hk a (by simp)
    have ih := flat_at (f := f) (k := k) (fun p hp => hk p (List.mem_cons_of_mem _ hp)) h
    rw [List.flatMap_cons, Nat.succ_mul, Nat.add_comm, ← List.drop_drop]
    rw [← ha, List.drop_left, ha]
    exact ih

theorem flat_length {α : Type} {f : α → List Value} {k : Nat} : ∀ {L : List α}, (∀ p ∈ L, (f p).length = k) → (L.flatMap f).length = L.length * k
  | [], _ => by simp
  | a :: r, hk => by
    rw [List.flatMap_cons, List.length_append, hk a (by simp), flat_length fun p hp => hk p (List.mem_cons_of_mem _ hp), List.length_cons, Nat.succ_mul]
    omega

/-! ### append -/
def appOk (P : Program) (t e size bytes : Nat) : Bool :=
  match P.underlying t with
  | some (.slice e') => e' == e && (match P.info? e with
    | some i => i.size == size && i.bytes == bytes && (match i.zero with | some z => z.cells.size == size | none => false)
    | none => false)
  | _ => false

theorem appOk_run {P : Program} {t e size bytes : Nat} (h : appOk P t e size bytes = true) :
    ∃ i z, P.underlying t = some (.slice e) ∧ P.info? e = some i ∧ i.zero = some z ∧ i.size = size ∧ i.bytes = bytes ∧ z.cells.size = size := by
  unfold appOk at h
  split at h
  · rename_i e' hu
    simp only [Bool.and_eq_true, beq_iff_eq] at h
    obtain ⟨rfl, h⟩ := h
    split at h
    · rename_i i hi
      simp only [Bool.and_eq_true, beq_iff_eq] at h
      obtain ⟨⟨h1, h2⟩, h3⟩ := h
      split at h3
      · rename_i z hz
        exact ⟨i, z, hu, hi, hz, h1, h2, by simpa using h3⟩
      · cases h3
    · cases h
  · cases h

theorem opTo_append {P : Program} {n : Nat} {σ : Env} {o : Oper} {w : World} {v : Value} {t : TypeId} {s x : Operand} {b q m c ln : Nat} {K : Value → World → Prop} (base e size bytes : Nat) (xs news : List Value)
    (ho : o.op = .call { callee := .builtin .append, args := #[s, x], argTypes := #[t, t] }) (hs : ev σ s = some v) (hx : ev σ x = some (.slice (some ⟨b, q, none⟩) m c))
    (hP : appOk P t e size bytes = true) (hsz : 0 < size) (hown : w.ownsRow base e size v ln xs) (hnews : w.rangeAt b q news) (hl : news.length = m * size) (h1 : ∀ u ∈ news, u.oneCell' = true)
    (hm : 0 < m) (h63 : ln + m ≤ maxLen) (hbytes : (ln + m) * bytes ≤ 140737488355328) (hbase : base ≤ w.heap.size)
    (hK : ∀ g cap w', w'.ownsRow base e size (.slice (some ⟨g, 0, none⟩) (ln + m) cap) (ln + m) (xs ++ news) → w.grownBy w' v.ownBlock → (v.ownBlock = some g ∨ g = w.heap.size) → g < w'.heap.size → K (.slice (some ⟨g, 0, none⟩) (ln + m) cap) w') : OpTo P n σ o w K := by
  obtain ⟨i, z, hu, hi, hz, hsize, hby, hzs⟩ := appOk_run hP
  obtain ⟨g, cap, w', hr, h2, h3, h4, h5⟩ := run_append_lies (P := P) w t o.type base e i z size bytes hu hi hz hsize hby hzs hsz v ln xs hown ⟨b, q, none⟩ m c news hl (fun j u hj => by rw [Addr.add_mid]; exact hnews j u hj) h1 hm h63 hbytes hbase _ rfl
  refine opTo_run (w' := w') (v := .slice (some ⟨g, 0, none⟩) (ln + m) cap) (fun a ha => ?_) (hK g cap w' h2 h3 h4 h5)
  simp [execOp, ho, resolve, invoke, builtin, ha.eval hs, ha.eval hx, hr]
end E
end Go.Proofs.YtmplkogkphmmjafGreat

/- Rows of int64 as values: how they are held against one another, and one of them out of a row. -/
namespace Go.Proofs.YtmplkogkphmmjafGreat
set_option maxRecDepth 20000
set_option maxHeartbeats 4000000
namespace E

def ints (l : List Int) : List Value := l.map fun x => .int .i64 x
theorem ints_length (l : List Int) : (ints l).length = l.length := by simp [ints]
theorem ints_one (l : List Int) : ∀ u ∈ ints l, u.oneCell' = true := by
  intro u hu
  simp only [ints, List.mem_map] at hu
  obtain ⟨x, _, rfl⟩ := hu
  rfl

theorem list8 {l : List Int} (h : l.length = 8) : ∃ a b c d e f g i, l = [a, b, c, d, e, f, g, i] := by
  match l, h with
  | [a, b, c, d, e, f, g, i], _ => exact ⟨a, b, c, d, e, f, g, i, rfl⟩


def arrInt (P : Program) (t len : Nat) : Bool :=
  match P.underlying t with
  | some (.array l e) => l == len && (match P.underlying e with | some (.int _) => true | _ => false) && sizeOk P e 1 && !(P.eqGuardType P.depth t)
  | _ => false

theorem arrInt_spec {P : Program} {t len : Nat} (h : arrInt P t len = true) :
    ∃ e k i, P.underlying t = some (.array len e) ∧ P.underlying e = some (.int k) ∧ P.info? e = some i ∧ i.size = 1 ∧ P.eqGuardType P.depth t = false := by
  unfold arrInt at h
  split at h
  · rename_i l e hu
    simp only [Bool.and_eq_true, beq_iff_eq, Bool.not_eq_true'] at h
    obtain ⟨⟨⟨rfl, h1⟩, h2⟩, h3⟩ := h
    split at h1
    · rename_i k hk
      unfold sizeOk at h2
      split at h2
      · rename_i i hi
        exact ⟨e, k, i, hu, hk, hi, by simpa using h2, h3⟩
      · cases h2
    · cases h1
  · cases h

theorem part_ints {P : Program} {e : TypeId} {k : IntKind} {l : List Int} {j : Nat} {x : Int} (hu : P.underlying e = some (.int k)) (hx : l[j]? = some x) (w : World) : (part e (ints l).toArray j).run P w = .ok (.int .i64 x) w := by
  have hg : (ints l).toArray[j]? = some (.int .i64 x) := by simp [ints, hx]
  simp [part, isAgg, run_underlying hu, hg]

theorem run_eqItems_ints {P : Program} {e : TypeId} {k : IntKind} (hu : P.underlying e = some (.int k)) (d : Nat) (xs ys : List Int) (w : World) : ∀ (is : List Nat), (∀ i ∈ is, i < xs.length ∧ i < ys.length) →
    (Op.eqItems (d + 1) e 1 (ints xs).toArray (ints ys).toArray is).run P w = .ok (decide (∀ i ∈ is, xs[i]? = ys[i]?)) w
  | [], _ => by simp [Op.eqItems]
  | i :: is, h => by
    obtain ⟨h1, h2⟩ := h i (by simp)
    have hx : xs[i]? = some xs[i] := List.getElem?_eq_getElem h1
    have hy : ys[i]? = some ys[i] := List.getElem?_eq_getElem h2
    have ih := run_eqItems_ints hu d xs ys w is fun j hj => h j (List.mem_cons_of_mem _ hj)
    simp only [Op.eqItems, Nat.mul_one, Sem.run_bind, part_ints hu hx, part_ints hu hy, Result.andThen_ok, run_equalIn_int w d e .i64 k _ _ hu]
    by_cases hxy : xs[i] = ys[i]
    · have hb : (xs[i] == ys[i]) = true := by simpa using hxy
      have hp : xs[i]? = ys[i]? := by rw [hx, hy, hxy]
      simp only [hb, Bool.not_true, Bool.false_eq_true, if_false, ih, List.forall_mem_cons, hp, true_and]
    · have hb : (xs[i] == ys[i]) = false := by simpa using hxy
      have hn : ¬ (xs[i]? = ys[i]?) := by rw [hx, hy]; simpa using hxy
      simp only [hb, Bool.not_false, if_true, Sem.run_pure, List.forall_mem_cons, hn, false_and, decide_false]

theorem run_equal_ints {P : Program} {t len : Nat} (h : arrInt P t len = true) {xs ys : List Int} (hx : xs.length = len) (hy : ys.length = len) (w : World) : (Op.equal t (.agg (ints xs).toArray) (.agg (ints ys).toArray)).run P w = .ok (decide (xs = ys)) w := by
  obtain ⟨e, k, i, hu, hk, hi, hs, _⟩ := arrInt_spec h
  have hc : P.cellsOf e = 1 := by simp [Program.cellsOf, hi, hs]
  have he : (Op.equal t (.agg (ints xs).toArray) (.agg (ints ys).toArray)).run P w = (Op.eqItems (9998 + 1) e (P.cellsOf e) (ints xs).toArray (ints ys).toArray (List.range len)).run P w :=
    run_equalIn_array w 9999 (ints xs).toArray (ints ys).toArray hu hi
  rw [he, hc, run_eqItems_ints hk 9998 xs ys w (List.range len) (fun j hj => by have := List.mem_range.1 hj; omega)]
  congr 1
  refine decide_eq_decide.2 ⟨fun hall => List.ext_getElem? fun j => ?_, fun e _ _ => by rw [e]⟩
  by_cases hj : j < len
  · exact hall j (List.mem_range.2 hj)
  · rw [List.getElem?_eq_none (by omega), List.getElem?_eq_none (by omega)]

section
variable {P : Program} {T : Tbl} {n : Nat} {σ : Env} {o : Oper}
theorem val_eqInts {t t' len : Nat} {x y : Operand} (xs ys : List Int) (h : arrInt P t len = true) (ho : o.op = .binOp .eql t x y t') (hx : ev σ x = some (.agg (ints xs).toArray)) (hy : ev σ y = some (.agg (ints ys).toArray))
    (lx : xs.length = len) (ly : ys.length = len) (r : Bool) (hr : decide (xs = ys) = r) (w : World) : Val P n σ o w (.bool r) := by
  intro a ha
  subst hr
  obtain ⟨_, _, _, _, _, _, _, hq⟩ := arrInt_spec h
  simp [execOp, ho, ha.eval hx, ha.eval hy, eqGuard, hq, binOp, run_equal_ints h lx ly]
theorem val_neInts {t t' len : Nat} {x y : Operand} (xs ys : List Int) (h : arrInt P t len = true) (ho : o.op = .binOp .neq t x y t') (hx : ev σ x = some (.agg (ints xs).toArray)) (hy : ev σ y = some (.agg (ints ys).toArray))
    (lx : xs.length = len) (ly : ys.length = len) (r : Bool) (hr : (!decide (xs = ys)) = r) (w : World) : Val P n σ o w (.bool r) := by
  intro a ha
  subst hr
  obtain ⟨_, _, _, _, _, _, _, hq⟩ := arrInt_spec h
  simp [execOp, ho, ha.eval hx, ha.eval hy, eqGuard, hq, binOp, run_equal_ints h lx ly]

/-- One word out of a row that is a value. -/
theorem val_at {t len : Nat} {x ix : Operand} {kk : IntKind} (xs : List Int) (j : Nat) {i c : Int} (h : arrInt P t len = true) (ho : o.op = .index t x ix) (hx : ev σ x = some (.agg (ints xs).toArray)) (hi : ev σ ix = some (.int kk i))
    (hij : i = (j : Int)) (hj : j < len) (hc : xs[j]? = some c) (w : World) : Val P n σ o w (.int .i64 c) := by
  intro a ha
  subst hij
  obtain ⟨e, k, inf, hu, hk, hinf, hs, _⟩ := arrInt_spec h
  have hsz : (sizeOf e).run P w = .ok 1 w := by simp [sizeOf, typeInfo, hinf, hs]
  simp [execOp, ho, ha.eval hx, ha.eval hi, Instr.index, asIntOf, run_underlying hu, hj, hsz, part_ints hk hc]
end
end E
end Go.Proofs.YtmplkogkphmmjafGreat

/- Trees of expressions and of statements, as they lie in memory. -/
namespace Go.Proofs.YtmplkogkphmmjafGreat
set_option maxRecDepth 20000
set_option maxHeartbeats 4000000
namespace E

inductive ET where
  | mk (op v n : Int) (l : List ET)
inductive ST where
  | mk (op v : Int) (e f : ET) (b o : List ST)

/-- A slice's elements, k cells each, in blocks of F. -/
def RowAt (F : Nat → Prop) (w : World) (k : Nat) (a : Option Addr) (len : Nat) (cc : Nat → List Value) : Prop :=
  0 < len → ∃ b q, a = some ⟨b, q, none⟩ ∧ F b ∧ ∀ i, i < len → w.rangeAt b (q + i * k) (cc i)

/-- The cells cs are the expression; what it leads to lies in blocks of F. -/
inductive ExprV (F : Nat → Prop) (w : World) : List Value → ET → Prop
  | mk {op v n : Int} {l : List ET} {a : Option Addr} {cap : Nat} (cc : Nat → List Value) (hr : RowAt F w 4 a l.length cc) (hc : ∀ i (h : i < l.length), ExprV F w (cc i) (l[i]'h)) :
      ExprV F w [.int .i64 op, .int .i64 v, .int .i64 n, .slice a l.length cap] (.mk op v n l)

inductive StmtV (F : Nat → Prop) (w : World) : List Value → ST → Prop
  | mk {op v : Int} {e f : ET} {ce cf : List Value} {b o : List ST} {ab ao : Option Addr} {capb capo : Nat} (cb co : Nat → List Value) (he : ExprV F w ce e) (hf : ExprV F w cf f)
      (hb : RowAt F w 12 ab b.length cb) (hcb : ∀ i (h : i < b.length), StmtV F w (cb i) (b[i]'h))
      (ho : RowAt F w 12 ao o.length co) (hco : ∀ i (h : i < o.length), StmtV F w (co i) (o[i]'h)) :
      StmtV F w ([.int .i64 op, .int .i64 v] ++ ce ++ cf ++ [.slice ab b.length capb, .slice ao o.length capo]) (.mk op v e f b o)

/-- A slice of statements. -/
def StmtsV (F : Nat → Prop) (w : World) (v : Value) (l : List ST) : Prop :=
  ∃ a cap cc, v = .slice a l.length cap ∧ RowAt F w 12 a l.length cc ∧ ∀ i (h : i < l.length), StmtV F w (cc i) (l[i]'h)
/-- A slice of expressions. -/
def ExprsV (F : Nat → Prop) (w : World) (v : Value) (l : List ET) : Prop :=
  ∃ a cap cc, v = .slice a l.length cap ∧ RowAt F w 4 a l.length cc ∧ ∀ i (h : i < l.length), ExprV F w (cc i) (l[i]'h)

section
variable {F F' : Nat → Prop} {w w' : World} {cs : List Value}

theorem ExprV.length {t : ET} (h : ExprV F w cs t) : cs.length = 4 := by cases h; rfl
theorem ExprV.one {t : ET} (h : ExprV F w cs t) : ∀ u ∈ cs, u.oneCell' = true := by
  cases h
  intro u hu
  simp at hu
  rcases hu with rfl | rfl | rfl | rfl <;> rfl
theorem StmtV.length {t : ST} (h : StmtV F w cs t) : cs.length = 12 := by
  cases h with
  | mk cb co he hf => simp [he.length, hf.length]
theorem StmtV.one {t : ST} (h : StmtV F w cs t) : ∀ u ∈ cs, u.oneCell' = true := by
  cases h with
  | mk cb co he hf =>
    intro u hu
    simp only [List.mem_append, List.mem_cons, List.not_mem_nil, or_false] at hu
    rcases hu with (((rfl | rfl) | hu) | hu) | (rfl | rfl)
    · rfl
    · rfl
    · exact he.one u hu
    · exact hf.one u hu
    · rfl
    · rfl

/-- What F allows stays: it is there, and it is not touched. -/
def Stays (F : Nat → Prop) (w : World) (fp : List Nat) : Prop := ∀ k, F k → k < w.heap.size ∧ k ∉ fp

theorem RowAt.keep {k : Nat} {a : Option Addr} {len : Nat} {cc : Nat → List Value} {fp : List Nat} (h : RowAt F w k a len cc) (hk : Keep fp w w') (hs : Stays F w fp) : RowAt F w' k a len cc := fun h0 => by
  obtain ⟨b, q, ha, hF, hr⟩ := h h0
  refine ⟨b, q, ha, hF, fun i hi j v hv => ?_⟩
  rw [World.cell?_of_block (w := w) (hk.block b (hs b hF).1 (hs b hF).2)]
  exact hr i hi j v hv
theorem RowAt.mono {k : Nat} {a : Option Addr} {len : Nat} {cc : Nat → List Value} (h : RowAt F w k a len cc) (hF : ∀ b, F b → F' b) : RowAt F' w k a len cc := fun h0 => by
  obtain ⟨b, q, ha, hb, hr⟩ := h h0
  exact ⟨b, q, ha, hF b hb, hr⟩
theorem ExprV.keep {t : ET} {fp : List Nat} (h : ExprV F w cs t) (hk : Keep fp w w') (hs : Stays F w fp) : ExprV F w' cs t := by
  induction h with
  | mk cc hr _ ih => exact .mk cc (hr.keep hk hs) ih
theorem ExprV.mono {t : ET} (h : ExprV F w cs t) (hF : ∀ b, F b → F' b) : ExprV F' w cs t := by
  induction h with
  | mk cc hr _ ih => exact .mk cc (hr.mono hF) ih
theorem StmtV.keep {t : ST} {fp : List Nat} (h : StmtV F w cs t) (hk : Keep fp w w') (hs : Stays F w fp) : StmtV F w' cs t := by
  induction h with
  | mk cb co he hf hb _ ho _ ihb iho => exact .mk cb co (he.keep hk hs) (hf.keep hk hs) (hb.keep hk hs) ihb (ho.keep hk hs) iho
theorem StmtV.mono {t : ST} (h : StmtV F w cs t) (hF : ∀ b, F b → F' b) : StmtV F' w cs t := by
  induction h with
  | mk cb co he hf hb _ ho _ ihb iho => exact .mk cb co (he.mono hF) (hf.mono hF) (hb.mono hF) ihb (ho.mono hF) iho
theorem StmtsV.keep {v : Value} {l : List ST} {fp : List Nat} (h : StmtsV F w v l) (hk : Keep fp w w') (hs : Stays F w fp) : StmtsV F w' v l := by
  obtain ⟨a, cap, cc, hv, hr, hc⟩ := h
  exact ⟨a, cap, cc, hv, hr.keep hk hs, fun i hi => (hc i hi).keep hk hs⟩
theorem StmtsV.mono {v : Value} {l : List ST} (h : StmtsV F w v l) (hF : ∀ b, F b → F' b) : StmtsV F' w v l := by
  obtain ⟨a, cap, cc, hv, hr, hc⟩ := h
  exact ⟨a, cap, cc, hv, hr.mono hF, fun i hi => (hc i hi).mono hF⟩
theorem ExprsV.keep {v : Value} {l : List ET} {fp : List Nat} (h : ExprsV F w v l) (hk : Keep fp w w') (hs : Stays F w fp) : ExprsV F w' v l := by
  obtain ⟨a, cap, cc, hv, hr, hc⟩ := h
  exact ⟨a, cap, cc, hv, hr.keep hk hs, fun i hi => (hc i hi).keep hk hs⟩
theorem ExprsV.mono {v : Value} {l : List ET} (h : ExprsV F w v l) (hF : ∀ b, F b → F' b) : ExprsV F' w v l := by
  obtain ⟨a, cap, cc, hv, hr, hc⟩ := h
  exact ⟨a, cap, cc, hv, hr.mono hF, fun i hi => (hc i hi).mono hF⟩

/-- One of a slice of statements. -/
theorem StmtsV.at {v : Value} {l : List ST} (h : StmtsV F w v l) {i : Nat} {t : ST} (ht : l[i]? = some t) : ∃ b q cap ci, v = .slice (some ⟨b, q, none⟩) l.length cap ∧ F b ∧ w.rangeAt b (q + i * 12) ci ∧ StmtV F w ci t := by
  obtain ⟨a, cap, cc, hv, hr, hc⟩ := h
  obtain ⟨hlt, e⟩ := List.getElem?_eq_some_iff.1 ht
  obtain ⟨b, q, ha, hF, hra⟩ := hr (by omega)
  exact ⟨b, q, cap, cc i, by rw [hv, ha], hF, hra i hlt, by rw [← e]; exact hc i hlt⟩
theorem ExprsV.at {v : Value} {l : List ET} (h : ExprsV F w v l) {i : Nat} {t : ET} (ht : l[i]? = some t) : ∃ b q cap ci, v = .slice (some ⟨b, q, none⟩) l.length cap ∧ F b ∧ w.rangeAt b (q + i * 4) ci ∧ ExprV F w ci t := by
  obtain ⟨a, cap, cc, hv, hr, hc⟩ := h
  obtain ⟨hlt, e⟩ := List.getElem?_eq_some_iff.1 ht
  obtain ⟨b, q, ha, hF, hra⟩ := hr (by omega)
  exact ⟨b, q, cap, cc i, by rw [hv, ha], hF, hra i hlt, by rw [← e]; exact hc i hlt⟩
theorem StmtsV.form {v : Value} {l : List ST} (h : StmtsV F w v l) : ∃ a cap, v = .slice a l.length cap := by
  obtain ⟨a, cap, _, hv, _⟩ := h
  exact ⟨a, cap, hv⟩
theorem ExprsV.form {v : Value} {l : List ET} (h : ExprsV F w v l) : ∃ a cap, v = .slice a l.length cap := by
  obtain ⟨a, cap, _, hv, _⟩ := h
  exact ⟨a, cap, hv⟩

/-- An expression by its cells. -/
theorem ExprV.inv {op v n : Int} {l : List ET} (h : ExprV F w cs (.mk op v n l)) : ∃ lv, cs = [.int .i64 op, .int .i64 v, .int .i64 n, lv] ∧ ExprsV F w lv l := by
  cases h with
  | mk cc hr hc => exact ⟨_, rfl, _, _, cc, rfl, hr, hc⟩
theorem ExprV.of {op v n : Int} {l : List ET} {lv : Value} (h : ExprsV F w lv l) : ExprV F w [.int .i64 op, .int .i64 v, .int .i64 n, lv] (.mk op v n l) := by
  obtain ⟨a, cap, cc, rfl, hr, hc⟩ := h
  exact .mk cc hr hc
/-- A statement by its cells. -/
theorem StmtV.inv {op v : Int} {e f : ET} {b o : List ST} (h : StmtV F w cs (.mk op v e f b o)) : ∃ ce cf bv ov, cs = [.int .i64 op, .int .i64 v] ++ ce ++ cf ++ [bv, ov] ∧ ExprV F w ce e ∧ ExprV F w cf f ∧ StmtsV F w bv b ∧ StmtsV F w ov o := by
  cases h with
  | mk cb co he hf hb hcb ho hco => exact ⟨_, _, _, _, rfl, he, hf, ⟨_, _, cb, rfl, hb, hcb⟩, ⟨_, _, co, rfl, ho, hco⟩⟩
theorem StmtV.of {op v : Int} {e f : ET} {b o : List ST} {ce cf : List Value} {bv ov : Value} (he : ExprV F w ce e) (hf : ExprV F w cf f) (hb : StmtsV F w bv b) (ho : StmtsV F w ov o) : StmtV F w ([.int .i64 op, .int .i64 v] ++ ce ++ cf ++ [bv, ov]) (.mk op v e f b o) := by
  obtain ⟨a, cap, cc, rfl, hr, hc⟩ := hb
  obtain ⟨a', cap', cc', rfl, hr', hc'⟩ := ho
  exact .mk cc cc' he hf hr hc hr' hc'
theorem ExprsV.nil : ExprsV F w (.slice none 0 0) [] := ⟨none, 0, fun _ => [], rfl, fun h => absurd h (by simp), fun i h => by simp at h⟩
theorem StmtsV.nil : StmtsV F w (.slice none 0 0) [] := ⟨none, 0, fun _ => [], rfl, fun h => absurd h (by simp), fun i h => by simp at h⟩
end

/-! ### How great a tree is -/
mutual
def szE : ET → Nat
  | .mk _ _ _ l => 1 + szEs l
def szEs : List ET → Nat
  | [] => 0
  | t :: r => szE t + szEs r
end
mutual
def szS : ST → Nat
  | .mk _ _ e f b o => 1 + szE e + szE f + szSs b + szSs o
def szSs : List ST → Nat
  | [] => 0
  | t :: r => szS t + szSs r
end
end E
end Go.Proofs.YtmplkogkphmmjafGreat

/- Plain mathematics of programs: what is one, and what its fault is. -/
namespace Go.Proofs.YtmplkogkphmmjafGreat
set_option maxRecDepth 20000
set_option maxHeartbeats 4000000
namespace E

abbrev VarT := ByteArray × Int

def partsOf (op : Int) : Int := if op = 1 ∨ op = 2 then 0 else if op = 3 then 1 else if 4 ≤ op ∧ op ≤ 8 then 2 else -1
def needE (op : Int) : Bool := op == 1 || op == 2 || op == 3 || op == 5 || op == 6
def needF (op : Int) : Bool := op == 2
def needV (op : Int) : Bool := op == 1 || op == 2 || op == 4
def needB (op : Int) : Bool := op == 5 || op == 6
def needO (op : Int) : Bool := op == 6
def letter (c : UInt8) : Bool := decide (97 ≤ c.toNat) && decide (c.toNat ≤ 122)
def nameOk (s : ByteArray) : Bool := s.data.toList.all letter && decide (1 ≤ s.size) && decide (s.size ≤ 8)

/-- A part is met: the number of parts behind it, or a code. -/
def headK (deep k : Nat) : Except Int Nat := if deep > 12 then .error 4 else if k + 1 > 150 then .error 3 else .ok (k + 1)
def varK (nv : Nat) (v : Int) (has : Bool) : Int := if has then (if v < 0 ∨ v ≥ (nv : Int) then 1 else 0) else (if v ≠ 0 then 5 else 0)
def zeroE : ET → Bool
  | .mk op v n l => op == 0 && v == 0 && n == 0 && l.isEmpty

def nextK (x : Except Int Nat) (f : Nat → Except Int Nat) : Except Int Nat := match x with
  | .error c => .error c
  | .ok k => f k

/-- The fault of an expression's own. -/
def ownE (nv : Nat) (op v n : Int) (len : Nat) : Int :=
  if partsOf op < 0 then 2 else if partsOf op ≠ (len : Int) then 5 else if op ≠ 1 ∧ n ≠ 0 then 5 else varK nv v (op == 2 || op == 3)
/-- The fault of a statement's own. -/
def ownS (nv : Nat) (op v : Int) (e f : ET) (lb lo : Nat) : Int :=
  if op < 1 ∨ op > 7 then 2
  else if (!needE op && !zeroE e || !needF op && !zeroE f) = true then 5
  else if (!needB op && decide (0 < lb) || !needO op && decide (0 < lo)) = true then 5
  else varK nv v (needV op)

mutual
def chkE (nv : Nat) : ET → Nat → Nat → Except Int Nat
  | .mk op v n l, deep, k => nextK (headK deep k) fun k1 => if ownE nv op v n l.length ≠ 0 then .error (ownE nv op v n l.length) else chkEs nv l (deep + 1) k1
def chkEs (nv : Nat) : List ET → Nat → Nat → Except Int Nat
  | [], _, k => .ok k
  | t :: r, deep, k => nextK (chkE nv t deep k) fun k1 => chkEs nv r deep k1
end
mutual
def chkS (nv : Nat) : ST → Nat → Nat → Except Int Nat
  | .mk op v e f b o, deep, k => nextK (headK deep k) fun k1 => if ownS nv op v e f b.length o.length ≠ 0 then .error (ownS nv op v e f b.length o.length) else
      nextK (if needE op then chkE nv e (deep + 1) k1 else .ok k1) fun k2 => nextK (if needF op then chkE nv f (deep + 1) k2 else .ok k2) fun k3 =>
        nextK (chkSs nv b (deep + 1) k3) fun k4 => chkSs nv o (deep + 1) k4
def chkSs (nv : Nat) : List ST → Nat → Nat → Except Int Nat
  | [], _, k => .ok k
  | t :: r, deep, k => nextK (chkS nv t deep k) fun k1 => chkSs nv r deep k1
end

def codeOf : Except Int Nat → Int
  | .error c => c
  | .ok _ => 0

def chkV (done : List ByteArray) (n : Int) : List VarT → Int
  | [] => 0
  | x :: r => if nameOk x.1 = false then 8 else if (done.any fun s => s.toList == x.1.toList) = true then 9 else if x.2 < 1 ∨ x.2 > 48 ∨ n + x.2 > 48 then 1 else chkV (done ++ [x.1]) (n + x.2) r
def progFault (vs : List VarT) (body : List ST) : Int :=
  if vs.length > 8 then 3 else if chkV [] 0 vs ≠ 0 then chkV [] 0 vs else codeOf (chkSs vs.length body 0 0)

/-- How many cells the first ones have. -/
def sumV (vs : List VarT) : Int := (vs.map (·.2)).sum
def cellOf (vs : List VarT) (v : Int) : Int := sumV (vs.take v.toNat)

/-! ### The same? -/
mutual
def eqE : ET → ET → Bool
  | .mk op v n l, .mk op' v' n' l' => op == op' && v == v' && n == n' && eqEs l l'
def eqEs : List ET → List ET → Bool
  | [], [] => true
  | t :: r, t' :: r' => eqE t t' && eqEs r r'
  | _, _ => false
end
mutual
def eqS : ST → ST → Bool
  | .mk op v e f b o, .mk op' v' e' f' b' o' => op == op' && v == v' && eqE e e' && eqE f f' && eqSs b b' && eqSs o o'
def eqSs : List ST → List ST → Bool
  | [], [] => true
  | t :: r, t' :: r' => eqS t t' && eqSs r r'
  | _, _ => false
end
def eqV (a b : VarT) : Bool := a.1.toList == b.1.toList && a.2 == b.2
def eqVs : List VarT → List VarT → Bool
  | [], [] => true
  | t :: r, t' :: r' => eqV t t' && eqVs r r'
  | _, _ => false
def eqP (vs : List VarT) (b : List ST) (vs' : List VarT) (b' : List ST) : Bool := eqVs vs vs' && eqSs b b'

mutual
theorem eqE_refl : ∀ t, eqE t t = true
  | .mk op v n l => by simp [eqE, eqEs_refl l]
theorem eqEs_refl : ∀ l, eqEs l l = true
  | [] => by simp [eqEs]
  | t :: r => by simp [eqEs, eqE_refl t, eqEs_refl r]
end
mutual
theorem eqS_refl : ∀ t, eqS t t = true
  | .mk op v e f b o => by simp [eqS, eqE_refl, eqSs_refl b, eqSs_refl o]
theorem eqSs_refl : ∀ l, eqSs l l = true
  | [] => by simp [eqSs]
  | t :: r => by simp [eqSs, eqS_refl t, eqSs_refl r]
end
theorem eqVs_refl : ∀ l, eqVs l l = true
  | [] => rfl
  | t :: r => by simp [eqVs, eqV, eqVs_refl r]
theorem eqP_refl (vs : List VarT) (b : List ST) : eqP vs b vs b = true := by simp [eqP, eqVs_refl, eqSs_refl]

/-! ### What is less is a program, too -/
theorem nextK_ok {x : Except Int Nat} {f : Nat → Except Int Nat} {k' : Nat} (h : nextK x f = .ok k') : ∃ k, x = .ok k ∧ f k = .ok k' := by
  cases x with
  | error c => cases h
  | ok k => exact ⟨k, rfl, h⟩
theorem headK_ok {deep k k' : Nat} (h : headK deep k = .ok k') : k' = k + 1 ∧ deep ≤ 12 ∧ k + 1 ≤ 150 := by
  unfold headK at h
  split at h
  · cases h
  · split at h
    · cases h
    · injection h with h
      omega
theorem headK_mk {deep k : Nat} (h1 : deep ≤ 12) (h2 : k + 1 ≤ 150) : headK deep k = .ok (k + 1) := by
  unfold headK
  rw [if_neg (by omega), if_neg (by omega)]

/-- What is one stays one where there is more room; it has so many parts. -/
def Roomy (f : Nat → Nat → Except Int Nat) : Prop := ∀ d k k', f d k = .ok k' → ∃ c, k' = k + c ∧ ∀ d' m, d' ≤ d → m ≤ k → f d' m = .ok (m + c)

theorem Roomy.ok : Roomy fun _ k => .ok k := fun d k k' h => by
  injection h with h
  exact ⟨0, by omega, fun _ _ _ _ => rfl⟩
theorem Roomy.next {f g : Nat → Nat → Except Int Nat} (hf : Roomy f) (hg : Roomy g) : Roomy fun d k => nextK (f d k) fun k1 => g d k1 := fun d k k' h => by
  obtain ⟨k1, h1, h2⟩ := nextK_ok h
  obtain ⟨c1, e1, m1⟩ := hf d k k1 h1
  obtain ⟨c2, e2, m2⟩ := hg d k1 k' h2
  refine ⟨c1 + c2, by omega, fun d' m hd hm => ?_⟩
  show nextK (f d' m) (fun k1 => g d' k1) = _
  rw [m1 d' m hd hm]
  show g d' (m + c1) = _
  rw [m2 d' (m + c1) hd (by omega), Nat.add_assoc]
theorem Roomy.deeper {f : Nat → Nat → Except Int Nat} (hf : Roomy f) : Roomy fun d k => f (d + 1) k := fun d k k' h => by
  obtain ⟨c, e, m⟩ := hf (d + 1) k k' h
  exact ⟨c, e, fun d' m' hd hm => m (d' + 1) m' (by omega) hm⟩
theorem Roomy.head : Roomy headK := fun d k k' h => by
  obtain ⟨e, h1, h2⟩ := headK_ok h
  exact ⟨1, e, fun d' m hd hm => headK_mk (by omega) (by omega)⟩
theorem Roomy.unless {f : Nat → Nat → Except Int Nat} (c : Int) (hf : Roomy f) : Roomy fun d k => if c ≠ 0 then .error c else f d k := by
  by_cases h : c = 0
  · simp only [h, ne_eq, not_true_eq_false, if_false]
    exact hf
  · intro d k k' e
    simp only [ne_eq, h, not_false_eq_true, if_true] at e
    cases e
theorem Roomy.ite {f : Nat → Nat → Except Int Nat} (b : Bool) (hf : Roomy f) : Roomy fun d k => if b then f d k else .ok k := by
  cases b
  · exact Roomy.ok
  · exact hf

mutual
theorem roomyE (nv : Nat) : ∀ t, Roomy (chkE nv t)
  | .mk op v n l => by
    have := Roomy.next Roomy.head (Roomy.unless (ownE nv op v n l.length) (roomyEs nv l).deeper)
    intro d k k' h
    simp only [chkE] at h ⊢
    exact this d k k' h
theorem roomyEs (nv : Nat) : ∀ l, Roomy (chkEs nv l)
  | [] => by
    intro d k k' h
    simp only [chkEs] at h ⊢
    exact Roomy.ok d k k' h
  | t :: r => by
    have := Roomy.next (roomyE nv t) (roomyEs nv r)
    intro d k k' h
    simp only [chkEs] at h ⊢
    exact this d k k' h
end
mutual
theorem roomyS (nv : Nat) : ∀ t, Roomy (chkS nv t)
  | .mk op v e f b o => by
    have := Roomy.next Roomy.head (Roomy.unless (ownS nv op v e f b.length o.length) (Roomy.next (Roomy.ite (needE op) (roomyE nv e).deeper) (Roomy.next (Roomy.ite (needF op) (roomyE nv f).deeper) (Roomy.next (roomySs nv b).deeper (roomySs nv o).deeper))))
    intro d k k' h
    simp only [chkS] at h ⊢
    exact this d k k' h
theorem roomySs (nv : Nat) : ∀ l, Roomy (chkSs nv l)
  | [] => by
    intro d k k' h
    simp only [chkSs] at h ⊢
    exact Roomy.ok d k k' h
  | t :: r => by
    have := Roomy.next (roomyS nv t) (roomySs nv r)
    intro d k k' h
    simp only [chkSs] at h ⊢
    exact this d k k' h
end

/-- Some statements, in their order. -/
theorem chkSs_sub (nv : Nat) {l l' : List ST} (hs : l'.Sublist l) : ∀ {d k k' : Nat}, chkSs nv l d k = .ok k' → ∃ k2, chkSs nv l' d k = .ok k2 ∧ k2 ≤ k' := by
  induction hs with
  | slnil => intro d k k' h; exact ⟨k', h, Nat.le_refl _⟩
  | cons a _ ih =>
    intro d k k' h
    simp only [chkSs] at h
    obtain ⟨k1, h1, h2⟩ := nextK_ok h
    obtain ⟨c, e, _⟩ := roomyS nv a d k k1 h1
    obtain ⟨k2, h3, hle⟩ := ih h2
    obtain ⟨c2, e2, m2⟩ := roomySs nv _ d k1 k2 h3
    exact ⟨k + c2, m2 d k (Nat.le_refl _) (by omega), by omega⟩
  | cons_cons a _ ih =>
    intro d k k' h
    simp only [chkSs] at h ⊢
    obtain ⟨k1, h1, h2⟩ := nextK_ok h
    obtain ⟨k2, h3, hle⟩ := ih h2
    exact ⟨k2, by rw [h1]; exact h3, hle⟩

theorem chkS_in (nv : Nat) {op v : Int} {e f : ET} {b o : List ST} {d k k' : Nat} (h : chkS nv (.mk op v e f b o) d k = .ok k') : (∃ k2, chkSs nv b 0 0 = .ok k2) ∧ ∃ k2, chkSs nv o 0 0 = .ok k2 := by
  simp only [chkS] at h
  obtain ⟨k1, _, h⟩ := nextK_ok h
  split at h
  · cases h
  · obtain ⟨k2, _, h⟩ := nextK_ok h
    obtain ⟨k3, _, h⟩ := nextK_ok h
    obtain ⟨k4, hb, ho⟩ := nextK_ok h
    obtain ⟨c, _, m⟩ := roomySs nv b _ _ _ hb
    obtain ⟨c', _, m'⟩ := roomySs nv o _ _ _ ho
    exact ⟨⟨_, m 0 0 (by omega) (by omega)⟩, ⟨_, m' 0 0 (by omega) (by omega)⟩⟩
theorem chkSs_mem (nv : Nat) {l : List ST} {s : ST} (hs : s ∈ l) : ∀ {d k k' : Nat}, chkSs nv l d k = .ok k' → ∃ k1 k2, chkS nv s d k1 = .ok k2 := by
  induction l with
  | nil => cases hs
  | cons a r ih =>
    intro d k k' h
    simp only [chkSs] at h
    obtain ⟨k1, h1, h2⟩ := nextK_ok h
    rcases List.mem_cons.1 hs with rfl | hs
    · exact ⟨k, k1, h1⟩
    · exact ih hs h2
theorem codeOf_ok {x : Except Int Nat} (h : codeOf x = 0) (hne : ∀ c, x = .error c → c ≠ 0) : ∃ k, x = .ok k := by
  cases x with
  | error c => exact absurd h (hne c rfl)
  | ok k => exact ⟨k, rfl⟩

/-! ### Codes are not 0 -/
def Coded (x : Except Int Nat) : Prop := ∀ c, x = .error c → c ≠ 0
theorem coded_next {x : Except Int Nat} {f : Nat → Except Int Nat} (hx : Coded x) (hf : ∀ k, Coded (f k)) : Coded (nextK x f) := by
  cases x with
  | error c => exact fun c' h => hx c' h
  | ok k => exact hf k
theorem coded_ok (k : Nat) : Coded (.ok k) := fun c h => by cases h
theorem coded_head (d k : Nat) : Coded (headK d k) := by
  unfold headK
  split
  · intro c h; cases h; decide
  · split
    · intro c h; cases h; decide
    · exact coded_ok _
theorem coded_unless {c : Int} {x : Except Int Nat} (hx : Coded x) : Coded (if c ≠ 0 then .error c else x) := by
  split
  · rename_i h
    intro c' e
    cases e
    exact h
  · exact hx
mutual
theorem codedE (nv : Nat) : ∀ t d k, Coded (chkE nv t d k)
  | .mk op v n l, d, k => by
    simp only [chkE]
    exact coded_next (coded_head d k) fun k1 => coded_unless (codedEs nv l _ _)
theorem codedEs (nv : Nat) : ∀ l d k, Coded (chkEs nv l d k)
  | [], d, k => by simp only [chkEs]; exact coded_ok k
  | t :: r, d, k => by
    simp only [chkEs]
    exact coded_next (codedE nv t d k) fun k1 => codedEs nv r d k1
end
theorem coded_ite {b : Bool} {x y : Except Int Nat} (hx : Coded x) (hy : Coded y) : Coded (if b then x else y) := by cases b <;> assumption
mutual
theorem codedS (nv : Nat) : ∀ t d k, Coded (chkS nv t d k)
  | .mk op v e f b o, d, k => by
    simp only [chkS]
    exact coded_next (coded_head d k) fun k1 => coded_unless (coded_next (coded_ite (codedE nv e _ _) (coded_ok _)) fun k2 => coded_next (coded_ite (codedE nv f _ _) (coded_ok _)) fun k3 => coded_next (codedSs nv b _ _) fun k4 => codedSs nv o _ _)
theorem codedSs (nv : Nat) : ∀ l d k, Coded (chkSs nv l d k)
  | [], d, k => by simp only [chkSs]; exact coded_ok k
  | t :: r, d, k => by
    simp only [chkSs]
    exact coded_next (codedS nv t d k) fun k1 => codedSs nv r d k1
end

/-- A program's body, and what is less. -/
theorem progFault_ok {vs : List VarT} {body : List ST} (h : progFault vs body = 0) : vs.length ≤ 8 ∧ chkV [] 0 vs = 0 ∧ ∃ k, chkSs vs.length body 0 0 = .ok k := by
  unfold progFault at h
  split at h
  · cases h
  · split at h
    · rename_i h1
      exact absurd h h1
    · rename_i h1 h2
      exact ⟨by omega, by simpa using h2, codeOf_ok h (codedSs _ _ _ _)⟩
theorem progFault_mk {vs : List VarT} {body : List ST} (h1 : vs.length ≤ 8) (h2 : chkV [] 0 vs = 0) {k : Nat} (h3 : chkSs vs.length body 0 0 = .ok k) : progFault vs body = 0 := by
  unfold progFault
  rw [if_neg (by omega), if_neg (by simp [h2]), h3]
  rfl
theorem progFault_sub {vs : List VarT} {body body' : List ST} (h : progFault vs body = 0) (hs : body'.Sublist body) : progFault vs body' = 0 := by
  obtain ⟨h1, h2, k, h3⟩ := progFault_ok h
  obtain ⟨k2, h4, _⟩ := chkSs_sub vs.length hs h3
  exact progFault_mk h1 h2 h4
theorem progFault_in {vs : List VarT} {body : List ST} {op v : Int} {e f : ET} {b o : List ST} (h : progFault vs body = 0) (hs : .mk op v e f b o ∈ body) : progFault vs b = 0 ∧ progFault vs o = 0 := by
  obtain ⟨h1, h2, k, h3⟩ := progFault_ok h
  obtain ⟨k1, k2, h4⟩ := chkSs_mem vs.length hs h3
  obtain ⟨⟨_, h5⟩, ⟨_, h6⟩⟩ := chkS_in vs.length h4
  exact ⟨progFault_mk h1 h2 h5, progFault_mk h1 h2 h6⟩

/-! ### Cells -/
theorem chkV_sizes : ∀ {vs : List VarT} {done : List ByteArray} {n : Int}, chkV done n vs = 0 → (∀ x ∈ vs, 1 ≤ x.2 ∧ x.2 ≤ 48) ∧ (n ≤ 48 → n + sumV vs ≤ 48)
  | [], _, n, _ => by simp [sumV]
  | x :: r, done, n, h => by
    unfold chkV at h
    split at h
    · cases h
    · split at h
      · cases h
      · split at h
        · cases h
        · rename_i h3
          obtain ⟨h4, h5⟩ := chkV_sizes h
          refine ⟨fun y hy => ?_, fun _ => ?_⟩
          · rcases List.mem_cons.1 hy with rfl | hy
            · omega
            · exact h4 y hy
          · have := h5 (by omega)
            simp only [sumV, List.map_cons, List.sum_cons] at this ⊢
            omega
theorem sumV_nonneg {vs : List VarT} (h : ∀ x ∈ vs, 1 ≤ x.2 ∧ x.2 ≤ 48) : 0 ≤ sumV vs := by
  induction vs with
  | nil => simp [sumV]
  | cons x r ih =>
    have h1 := h x (by simp)
    have h2 := ih fun y hy => h y (List.mem_cons_of_mem _ hy)
    simp only [sumV, List.map_cons, List.sum_cons] at h2 ⊢
    omega
theorem sumV_append (a b : List VarT) : sumV (a ++ b) = sumV a + sumV b := by simp [sumV]
theorem sumV_take_succ {vs : List VarT} {i : Nat} {x : VarT} (h : vs[i]? = some x) : sumV (vs.take (i + 1)) = sumV (vs.take i) + x.2 := by
  obtain ⟨hlt, e⟩ := List.getElem?_eq_some_iff.1 h
  rw [List.take_succ_eq_append_getElem hlt, sumV_append, e]
  simp [sumV]
theorem sumV_take_le {vs : List VarT} (h : ∀ x ∈ vs, 1 ≤ x.2 ∧ x.2 ≤ 48) {i j : Nat} (hij : i ≤ j) : sumV (vs.take i) ≤ sumV (vs.take j) := by
  have e : vs.take j = vs.take i ++ (vs.take j).drop i := by
    have e := List.take_append_drop i (vs.take j)
    rw [List.take_take, Nat.min_eq_left hij] at e
    exact e.symm
  rw [e, sumV_append]
  have := sumV_nonneg (vs := (vs.take j).drop i) fun x hx => h x (List.mem_of_mem_take (List.mem_of_mem_drop hx))
  omega

/-! ### The same, one by one -/
theorem eqEs_len : ∀ {a b : List ET}, eqEs a b = true → a.length = b.length
  | [], [], _ => rfl
  | [], _ :: _, h => by simp [eqEs] at h
  | _ :: _, [], h => by simp [eqEs] at h
  | x :: r, y :: s, h => by
    simp only [eqEs, Bool.and_eq_true] at h
    simp [eqEs_len h.2]
theorem eqSs_len : ∀ {a b : List ST}, eqSs a b = true → a.length = b.length
  | [], [], _ => rfl
  | [], _ :: _, h => by simp [eqSs] at h
  | _ :: _, [], h => by simp [eqSs] at h
  | x :: r, y :: s, h => by
    simp only [eqSs, Bool.and_eq_true] at h
    simp [eqSs_len h.2]
theorem eqEs_ne {a b : List ET} (h : a.length ≠ b.length) : eqEs a b = false := by
  cases h' : eqEs a b with
  | false => rfl
  | true => exact absurd (eqEs_len h') h
theorem eqSs_ne {a b : List ST} (h : a.length ≠ b.length) : eqSs a b = false := by
  cases h' : eqSs a b with
  | false => rfl
  | true => exact absurd (eqSs_len h') h
theorem eqEs_nil {a b : List ET} (h : a.length = 0) (h' : b.length = 0) : eqEs a b = true := by
  rw [List.eq_nil_of_length_eq_zero h, List.eq_nil_of_length_eq_zero h']
  rfl
theorem eqSs_nil {a b : List ST} (h : a.length = 0) (h' : b.length = 0) : eqSs a b = true := by
  rw [List.eq_nil_of_length_eq_zero h, List.eq_nil_of_length_eq_zero h']
  rfl
theorem eqEs_append : ∀ {a c b d : List ET}, a.length = c.length → eqEs (a ++ b) (c ++ d) = (eqEs a c && eqEs b d)
  | [], [], _, _, _ => by simp [eqEs]
  | x :: r, y :: s, b, d, h => by
    have := eqEs_append (a := r) (c := s) (b := b) (d := d) (by simpa using h)
    simp only [List.cons_append, eqEs, this, Bool.and_assoc]
  | [], _ :: _, _, _, h => by simp at h
  | _ :: _, [], _, _, h => by simp at h
theorem eqEs_take {a b : List ET} (h : a.length = b.length) {i : Nat} {x y : ET} (hx : a[i]? = some x) (hy : b[i]? = some y) : eqEs (a.take (i + 1)) (b.take (i + 1)) = (eqEs (a.take i) (b.take i) && eqE x y) := by
  obtain ⟨h1, e1⟩ := List.getElem?_eq_some_iff.1 hx
  obtain ⟨h2, e2⟩ := List.getElem?_eq_some_iff.1 hy
  rw [List.take_succ_eq_append_getElem h1, List.take_succ_eq_append_getElem h2, eqEs_append (by simp; omega), e1, e2]
  simp [eqEs]
theorem eqEs_split {a b : List ET} (h : a.length = b.length) {i : Nat} {x y : ET} (hx : a[i]? = some x) (hy : b[i]? = some y) : eqEs a b = ((eqEs (a.take i) (b.take i) && eqE x y) && eqEs (a.drop (i + 1)) (b.drop (i + 1))) := by
  rw [← eqEs_take h hx hy, ← eqEs_append (by simp; omega), List.take_append_drop, List.take_append_drop]

theorem eqSs_append : ∀ {a c b d : List ST}, a.length = c.length → eqSs (a ++ b) (c ++ d) = (eqSs a c && eqSs b d)
  | [], [], _, _, _ => by simp [eqSs]
  | x :: r, y :: s, b, d, h => by
    have := eqSs_append (a := r) (c := s) (b := b) (d := d) (by simpa using h)
    simp only [List.cons_append, eqSs, this, Bool.and_assoc]
  | [], _ :: _, _, _, h => by simp at h
  | _ :: _, [], _, _, h => by simp at h
theorem eqSs_take {a b : List ST} (h : a.length = b.length) {i : Nat} {x y : ST} (hx : a[i]? = some x) (hy : b[i]? = some y) : eqSs (a.take (i + 1)) (b.take (i + 1)) = (eqSs (a.take i) (b.take i) && eqS x y) := by
  obtain ⟨h1, e1⟩ := List.getElem?_eq_some_iff.1 hx
  obtain ⟨h2, e2⟩ := List.getElem?_eq_some_iff.1 hy
  rw [List.take_succ_eq_append_getElem h1, List.take_succ_eq_append_getElem h2, eqSs_append (by simp; omega), e1, e2]
  simp [eqSs]
theorem eqSs_split {a b : List ST} (h : a.length = b.length) {i : Nat} {x y : ST} (hx : a[i]? = some x) (hy : b[i]? = some y) : eqSs a b = ((eqSs (a.take i) (b.take i) && eqS x y) && eqSs (a.drop (i + 1)) (b.drop (i + 1))) := by
  rw [← eqSs_take h hx hy, ← eqSs_append (by simp; omega), List.take_append_drop, List.take_append_drop]
theorem eqVs_len : ∀ {a b : List VarT}, eqVs a b = true → a.length = b.length
  | [], [], _ => rfl
  | [], _ :: _, h => by simp [eqVs] at h
  | _ :: _, [], h => by simp [eqVs] at h
  | x :: r, y :: s, h => by
    simp only [eqVs, Bool.and_eq_true] at h
    simp [eqVs_len h.2]
theorem eqVs_append : ∀ {a c b d : List VarT}, a.length = c.length → eqVs (a ++ b) (c ++ d) = (eqVs a c && eqVs b d)
  | [], [], _, _, _ => by simp [eqVs]
  | x :: r, y :: s, b, d, h => by
    have := eqVs_append (a := r) (c := s) (b := b) (d := d) (by simpa using h)
    simp only [List.cons_append, eqVs, this, Bool.and_assoc]
  | [], _ :: _, _, _, h => by simp at h
  | _ :: _, [], _, _, h => by simp at h
theorem eqVs_take {a b : List VarT} (h : a.length = b.length) {i : Nat} {x y : VarT} (hx : a[i]? = some x) (hy : b[i]? = some y) : eqVs (a.take (i + 1)) (b.take (i + 1)) = (eqVs (a.take i) (b.take i) && eqV x y) := by
  obtain ⟨h1, e1⟩ := List.getElem?_eq_some_iff.1 hx
  obtain ⟨h2, e2⟩ := List.getElem?_eq_some_iff.1 hy
  rw [List.take_succ_eq_append_getElem h1, List.take_succ_eq_append_getElem h2, eqVs_append (by simp; omega), e1, e2]
  simp [eqVs]
theorem eqVs_split {a b : List VarT} (h : a.length = b.length) {i : Nat} {x y : VarT} (hx : a[i]? = some x) (hy : b[i]? = some y) : eqVs a b = ((eqVs (a.take i) (b.take i) && eqV x y) && eqVs (a.drop (i + 1)) (b.drop (i + 1))) := by
  rw [← eqVs_take h hx hy, ← eqVs_append (by simp; omega), List.take_append_drop, List.take_append_drop]
end E
end Go.Proofs.YtmplkogkphmmjafGreat
