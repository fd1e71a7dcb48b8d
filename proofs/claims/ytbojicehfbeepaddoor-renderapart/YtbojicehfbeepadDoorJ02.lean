/- Several texts in one: Ops, TbP, Mem, Ints, Ops2, StrOps, Own, Ops3. -/
import Derived.Test.YtbojicehfbeepadDoorEng
import Derived.Laws.Tables
import Derived.Laws.Entries
import Derived.Test.YtbojicehfbeepadDoorProg
import Derived.Below
import Derived.ChangeKeysEq
import Derived.Laws.CopyRow
import Derived.Laws.StructEq
import Derived.Laws.MakeOwn
/- The laws of single operations for the engine: what an operation makes of its slots and of the world. -/
namespace Go.Proofs.YtbojicehfbeepadDoor
set_option maxRecDepth 20000
set_option maxHeartbeats 4000000
namespace E

def find {β : Type} : List (Nat × β) → Nat → Option β
  | [], _ => none
  | (s, v) :: r, t => match Nat.beq s t with
    | true => some v
    | false => find r t

theorem find_mem {β : Type} : ∀ {l : List (Nat × β)} {t : Nat} {x : β}, find l t = some x → (t, x) ∈ l
  | [], _, _, h => by simp [find] at h
  | (s, y) :: r, t, x, h => by
    unfold find at h
    cases hb : Nat.beq s t with
    | true =>
      have hb' := Nat.eq_of_beq_eq_true hb
      subst hb'
      simp at h
      subst h
      simp
    | false =>
      simp only [hb] at h
      exact List.mem_cons_of_mem _ (find_mem h)

/-- What a proof needs to know of a program's types: the fields' places, the slices' and arrays' elements, how many cells. -/
structure Tbl where
  fld : List (Nat × List (Nat × Nat))
  sl : List (Nat × Nat)
  ar : List (Nat × (Nat × Nat))
  one : List (Nat × Unit)
  ag : List (Nat × Nat)

def fldOk (P : Program) (s f off : Nat) : Bool :=
  match P.underlying s with
  | some (.struct fs) => match fs[f]? with
    | some d => d.offset == off && (match P.info? d.type with | some i => i.size != 0 | none => false)
    | none => false
  | _ => false
def sizeOk (P : Program) (t n : Nat) : Bool :=
  match P.info? t with
  | some i => i.size == n
  | none => false
def slOk (P : Program) (t n : Nat) : Bool :=
  match P.underlying t with
  | some (.slice e) => sizeOk P e n
  | _ => false
def arOk (P : Program) (t len n : Nat) : Bool :=
  match P.underlying t with
  | some (.array l e) => l == len && sizeOk P e n
  | _ => false
def oneOk (P : Program) (t : Nat) : Bool :=
  match P.underlying t with
  | some (.struct _) | some (.array _ _) | none => false
  | some _ => sizeOk P t 1
def agOk (P : Program) (t n : Nat) : Bool :=
  match P.underlying t with
  | some (.struct _) | some (.array _ _) => sizeOk P t n
  | _ => false
def Tbl.check (T : Tbl) (P : Program) : Bool :=
  (T.fld.all fun p => p.2.all fun q => fldOk P p.1 q.1 q.2) && (T.sl.all fun p => slOk P p.1 p.2) && (T.ar.all fun p => arOk P p.1 p.2.1 p.2.2) && (T.one.all fun p => oneOk P p.1) && (T.ag.all fun p => agOk P p.1 p.2)

def Tbl.fldAt (T : Tbl) (s f : Nat) : Option Nat :=
  match find T.fld s with
  | some l => find l f
  | none => none

section
variable {P : Program} {T : Tbl} {n : Nat} {σ : Env} {o : Oper} {w : World} {v : Value}

theorem Tbl.fld_ok (hT : T.check P = true) {s f off : Nat} (h : T.fldAt s f = some off) : fldOk P s f off = true := by
  simp only [Tbl.check, Bool.and_eq_true] at hT
  unfold Tbl.fldAt at h
  cases hs : find T.fld s with
  | none => simp [hs] at h
  | some l =>
    simp only [hs] at h
    exact List.all_eq_true.1 (List.all_eq_true.1 hT.1.1.1.1 _ (find_mem hs)) _ (find_mem h)
theorem Tbl.sl_ok (hT : T.check P = true) {t m : Nat} (h : find T.sl t = some m) : slOk P t m = true := by
  simp only [Tbl.check, Bool.and_eq_true] at hT
  exact List.all_eq_true.1 hT.1.1.1.2 _ (find_mem h)
theorem Tbl.ar_ok (hT : T.check P = true) {t : Nat} {m : Nat × Nat} (h : find T.ar t = some m) : arOk P t m.1 m.2 = true := by
  simp only [Tbl.check, Bool.and_eq_true] at hT
  exact List.all_eq_true.1 hT.1.1.2 _ (find_mem h)
theorem Tbl.one_ok (hT : T.check P = true) {t : Nat} (h : find T.one t = some ()) : oneOk P t = true := by
  simp only [Tbl.check, Bool.and_eq_true] at hT
  exact List.all_eq_true.1 hT.1.2 _ (find_mem h)
theorem Tbl.ag_ok (hT : T.check P = true) {t m : Nat} (h : find T.ag t = some m) : agOk P t m = true := by
  simp only [Tbl.check, Bool.and_eq_true] at hT
  exact List.all_eq_true.1 hT.2 _ (find_mem h)

theorem sizeOk_run {t m : Nat} (h : sizeOk P t m = true) (w : World) : (sizeOf t).run P w = .ok m w := by
  unfold sizeOk at h
  cases hi : P.info? t with
  | none => simp [hi] at h
  | some i =>
    simp only [hi, beq_iff_eq] at h
    simp [sizeOf, typeInfo, hi, h]
theorem sizeOk_info {t m : Nat} (h : sizeOk P t m = true) : (P.info? t).map (·.size) = some m := by
  unfold sizeOk at h
  cases hi : P.info? t with
  | none => simp [hi] at h
  | some i => simpa [hi] using h

theorem fldOk_run {s f off b q : Nat} (h : fldOk P s f off = true) (w : World) : (Instr.fieldAt s (.pointer (some ⟨b, q, none⟩)) f).run P w = .ok (.pointer (some ⟨b, q + off, none⟩)) w := by
  unfold fldOk at h
  split at h
  · rename_i fs hu
    split at h
    · rename_i d hd
      simp only [Bool.and_eq_true, beq_iff_eq] at h
      obtain ⟨rfl, h2⟩ := h
      split at h2
      · rename_i i hi
        have hne : i.size ≠ 0 := by simpa using h2
        have hsz : (sizeOf d.type).run P w = .ok i.size w := by simp [sizeOf, typeInfo, hi]
        simp [Instr.fieldAt, run_underlying hu, hd, Instr.sureAddr, fieldPlace, hsz, hne, Addr.add_mid]
      · cases h2
    · cases h
  · cases h

/-- Operations that look at slots alone. -/
def pureOp (T : Tbl) (σ : Env) : Op → Option Value
  | .move x => ev σ x
  | .assign x => ev σ x
  | .pick c a b => match ev σ c with
    | some (.bool true) => ev σ a
    | some (.bool false) => ev σ b
    | _ => none
  | .nilCheck x => match ev σ x with
    | some (.pointer (some a)) => some (.pointer (some a))
    | _ => none
  | .fieldAddr s x f => match ev σ x with
    | some (.pointer (some ⟨b, q, none⟩)) => match T.fldAt s f with
      | some off => some (.pointer (some ⟨b, q + off, none⟩))
      | none => none
    | _ => none
  | .extract x i => match ev σ x with
    | some (.tuple vs) => vs[i]?
    | _ => none
  | .makeFunc fn first captured => match evs σ first.toList with
    | none => none
    | some xs => match evs σ captured.toList with
      | none => none
      | some ys => some (.func fn xs.toArray ys.toArray)
  | .unOp .not _ x => match ev σ x with
    | some (.bool b) => some (.bool !b)
    | _ => none
  | .call c => match c.callee, c.args.toList, c.argTypes.toList with
    | .builtin .len, [x], [t] => match find T.sl t with
      | none => none
      | some _ => match ev σ x with
        | some (.slice _ m _) => some (.int .i64 m)
        | _ => none
    | _, _, _ => none
  | _ => none

theorem map_eq_toArray {α β : Type} {xs : Array α} {g : α → β} {ys : List β} (h : xs.toList.map g = ys) : xs.map g = ys.toArray := by
  apply Array.ext'
  simpa using h

theorem val_pure (hT : T.check P = true) (h : pureOp T σ o.op = some v) (w : World) : Val P n σ o w v := by
  intro a ha
  unfold pureOp at h
  split at h
  · rename_i x ho; simp [execOp, ho, ha.eval h]
  · rename_i x ho; simp [execOp, ho, ha.eval h]
  · rename_i c x y ho
    split at h
    · rename_i hc; simp [execOp, ho, ha.eval hc, asBool, ha.eval h]
    · rename_i hc; simp [execOp, ho, ha.eval hc, asBool, ha.eval h]
    · cases h
  · rename_i x ho
    split at h
    · rename_i ad hx; cases h; simp [execOp, ho, ha.eval hx]
    · cases h
  · rename_i s x f ho
    split at h
    · rename_i b q hx
      split at h
      · rename_i off hf
        cases h
        simp [execOp, ho, ha.eval hx, fldOk_run (Tbl.fld_ok hT hf)]
      · cases h
    · cases h
  · rename_i x i ho
    split at h
    · rename_i vs hx
      simp [execOp, ho, ha.eval hx, Instr.extract, h]
    · cases h
  · rename_i fn first captured ho
    split at h
    · cases h
    · rename_i xs hxs
      split at h
      · cases h
      · rename_i ys hys
        cases h
        simp only [execOp, ho]
        rw [map_eq_toArray (ha.evals hxs), map_eq_toArray (ha.evals hys)]
        simp [Instr.makeFunc]
  · rename_i t x ho
    split at h
    · rename_i b hx
      cases h
      simp [execOp, ho, ha.eval hx, Op.unary]
    · cases h
  · rename_i c ho
    split at h
    · rename_i x t hcal hargs htys
      split at h
      · cases h
      · rename_i m hm
        split at h
        · rename_i ad len cap hx
          cases h
          have hs := Tbl.sl_ok hT hm
          unfold slOk at hs
          split at hs
          · rename_i e hu
            have e1 : c.args = #[x] := Array.ext' hargs
            have e2 : c.argTypes = #[t] := Array.ext' htys
            simp [execOp, ho, resolve, hcal, e1, e2, invoke, builtin, Builtin.len_, run_underlying hu, ha.eval hx, goInt]
          · cases hs
        · cases h
    · cases h
  · cases h

section
variable {f : Nat} {ops : Array Oper} {k : List Item} {R : Post}
theorem pl_pure {l : List Oper} (hT : T.check P = true) (hg : guardOf ops σ o.guard = some true) (hv : pureOp T σ o.op = some v) (hd : dstOk n o.dst = true)
    (h : Pl P f n ops k R l (put σ o.dst v) w) : Pl P f n ops k R (o :: l) σ w := pl_val v hg hd (val_pure hT hv w) h
theorem dr_pure {S : World → Prop} {T' : List Nat} {fuel m : Nat} (i : Nat) (hT : T.check P = true) (ho : ops[i]? = some o) (hk : takeOk ops m i = true) (hg : guardOf ops σ o.guard = some true)
    (hv : pureOp T σ o.op = some v) (hd : dstOk n o.dst = true) (h : Dr P f n ops k R S T' fuel (m ||| 2 ^ i) (put σ o.dst v) w) : Dr P f n ops k R S T' (fuel + 1) m σ w :=
  dr_any i v ho hk hg hd (fun w => val_pure hT hv w) h
end

/-! ### Integers -/
def intOp (op : BinOp) (k : IntKind) (a b : Int) : Option Value :=
  match op with
  | .add => some (.int k (k.wrap (a + b)))
  | .sub => some (.int k (k.wrap (a - b)))
  | .mul => some (.int k (k.wrap (a * b)))
  | .rem => if b = 0 then none else some (.int k (a.tmod b))
  | .and => some (.int k (k.wrap (BitVec.ofInt k.bits a &&& BitVec.ofInt k.bits b).toNat))
  | .eql => some (.bool (a == b))
  | .neq => some (.bool (a != b))
  | .lss => some (.bool (a < b))
  | .leq => some (.bool (a ≤ b))
  | .gtr => some (.bool (a > b))
  | .geq => some (.bool (a ≥ b))
  | _ => none

theorem val_int {op : BinOp} {t t' : TypeId} {x y : Operand} (k : IntKind) (a b : Int) (r : Value) (ho : o.op = .binOp op t x y t') (hx : ev σ x = some (.int k a)) (hy : ev σ y = some (.int k b))
    (hr : intOp op k a b = some r) (w : World) : Val P n σ o w r := by
  intro ac ha
  cases op <;> simp only [intOp] at hr <;> first
    | (cases hr; done)
    | (cases hr; simp [execOp, ho, ha.eval hx, ha.eval hy, eqGuard, binOp, Op.intArith, Op.intCmp, Op.intBits]; done)
    | (split at hr
       · cases hr
       · rename_i hb
         cases hr
         simp [execOp, ho, ha.eval hx, ha.eval hy, eqGuard, binOp, Op.intDiv, hb])

theorem wrap_i64 {x : Int} (h1 : -9223372036854775808 ≤ x) (h2 : x < 9223372036854775808) : IntKind.i64.wrap x = x := by
  have e : IntKind.i64.wrap x = if x % 18446744073709551616 ≥ 9223372036854775808 then x % 18446744073709551616 - 18446744073709551616 else x % 18446744073709551616 := by
    simp [IntKind.wrap, IntKind.bits, IntKind.signed]
  rw [e]
  split <;> omega
theorem wrap_u64 {x : Int} (h1 : 0 ≤ x) (h2 : x < 18446744073709551616) : IntKind.u64.wrap x = x := by
  have e : IntKind.u64.wrap x = x % 18446744073709551616 := by
    simp [IntKind.wrap, IntKind.bits, IntKind.signed]
  rw [e]
  omega

theorem val_shr {t t' : TypeId} {x y : Operand} (k k' : IntKind) (a b : Int) (r : Int) (ho : o.op = .binOp .shr t x y t') (hx : ev σ x = some (.int k a)) (hy : ev σ y = some (.int k' b))
    (hb : 0 ≤ b) (hr : a.fdiv (2 ^ min b.toNat k.bits) = r) (w : World) : Val P n σ o w (.int k r) := by
  intro ac ha
  subst hr
  have : ¬ b < 0 := by omega
  simp [execOp, ho, ha.eval hx, ha.eval hy, eqGuard, binOp, Op.shift, this]

def convOk (P : Program) (src dst : Nat) (k : IntKind) : Bool :=
  match P.underlying src, P.underlying dst with
  | some _, some (.int k') => decide (k' = k)
  | _, _ => false

theorem val_conv {src dst : TypeId} {x : Operand} (k k' : IntKind) (a r : Int) (ho : o.op = .convert src dst x) (hx : ev σ x = some (.int k a)) (hc : convOk P src dst k' = true) (hr : k'.wrap a = r) (w : World) : Val P n σ o w (.int k' r) := by
  intro ac ha
  subst hr
  unfold convOk at hc
  split at hc
  · rename_i d k2 h1 h2
    have hk : k2 = k' := by simpa using hc
    subst hk
    cases d <;> simp [execOp, ho, ha.eval hx, convert, run_underlying h1, run_underlying h2, Conv.intToInt]
  · cases hc

/-! ### Memory -/
/-- A block that is known whole. -/
def Blk (w : World) (b : Nat) (L : List Value) (e : TypeId) : Prop := w.heap[b]? = some (.cells L.toArray e (0, 0))

theorem Blk.lt {b : Nat} {L : List Value} {e : TypeId} (h : Blk w b L e) : b < w.heap.size := (Array.getElem?_eq_some_iff.1 h).1
theorem Blk.drew {b : Nat} {L : List Value} {e : TypeId} (h : Blk w b L e) : Blk w.drew b L e := h
theorem Blk.alloc {b : Nat} {L : List Value} {e : TypeId} (h : Blk w b L e) (ob : Obj) : Blk (w.alloc ob) b L e := (heap_alloc_old w ob b h.lt).trans h
theorem Blk.new (w : World) (L : List Value) (e : TypeId) : Blk (w.alloc (.cells L.toArray e)) w.heap.size L e := heap_alloc_new w _
theorem Blk.set {b : Nat} {L : List Value} {e : TypeId} (h : Blk w b L e) (L' : List Value) : Blk (w.setRow b L'.toArray) b L' e := setRow_heap w b _ _ e _ h
theorem Blk.other {b c : Nat} {L : List Value} {e : TypeId} (h : Blk w b L e) (X : Array Value) (hne : b ≠ c) : Blk (w.setRow c X) b L e := by
  unfold Blk at *
  rw [setRow_other w c b X hne]; exact h
theorem Blk.cell {b i : Nat} {L : List Value} {e : TypeId} (h : Blk w b L e) (hv : L[i]? = some v) : w.cell? ⟨b, i, none⟩ = some v := by
  unfold Blk at h
  simp only [World.cell?, h]
  simpa using hv
theorem Blk.frozen {b i : Nat} {L : List Value} {e : TypeId} (h : Blk w b L e) : w.frozen? ⟨b, i, none⟩ = false := by
  unfold Blk at h
  simp [World.frozen?, h]
theorem Blk.range {b i : Nat} {L cs : List Value} {e : TypeId} (h : Blk w b L e) (hc : (L.drop i).take cs.length = cs) : w.rangeAt b i cs := fun j u hu => by
  refine h.cell ?_
  rw [← hc, List.getElem?_take] at hu
  split at hu
  · simpa using hu
  · cases hu
theorem Blk.there {b i m : Nat} {L : List Value} {e : TypeId} (h : Blk w b L e) (hl : i + m ≤ L.length) : w.there b i m := fun j hj => by
  refine ⟨?_, h.frozen⟩
  rw [h.cell (v := L[i + j]'(by omega)) (List.getElem?_eq_getElem (by omega))]
  rfl

def splice (L : List Value) (i : Nat) (vs : List Value) : List Value := L.take i ++ vs ++ L.drop (i + vs.length)
theorem splice_length {L vs : List Value} {i : Nat} (h : i + vs.length ≤ L.length) : (splice L i vs).length = L.length := by
  simp [splice]; omega

theorem setRow_setCell (w : World) (b i : Nat) (v : Value) (X : Array Value) : (w.setCell ⟨b, i, none⟩ v).setRow b X = w.setRow b X := by
  have : (w.setCell ⟨b, i, none⟩ v).setRow b X = { w with heap := ((w.heap.modify b fun | .cells c elem frozen => .cells (if (none : Option Nat).isSome then c else c.setIfInBounds i v) elem frozen | o => o).modify b fun | .cells _ elem frozen => .cells X elem frozen | o => o) } := rfl
  rw [this]
  unfold World.setRow
  congr 1
  apply Array.ext
  · simp
  · intro j h1 h2
    simp only [Array.getElem_modify]
    by_cases e : b = j
    · subst e
      simp only [if_true]
      cases w.heap[b]'(by simpa using h2) <;> rfl
    · simp [e]

theorem setCells_eq {e : TypeId} : ∀ (vs : List Value) (w : World) (b i : Nat) (L : List Value), Blk w b L e → i + vs.length ≤ L.length → w.setCells b i vs = w.setRow b (splice L i vs).toArray
  | [], w, b, i, L, h, _ => by
    have hs : splice L i [] = L := by simp [splice]
    rw [hs]
    unfold World.setCells World.setRow
    cases w with
    | mk heap tape drawn os output =>
      congr 1
      apply Array.ext
      · simp
      · intro j h1 h2
        simp only [Array.getElem_modify]
        by_cases ej : b = j
        · subst ej
          have hb : heap[b] = .cells L.toArray e (0, 0) := by
            have := h
            unfold Blk at this
            simpa [Array.getElem?_eq_some_iff, h1] using this
          simp [hb]
        · simp [ej]
  | v :: r, w, b, i, L, h, hl => by
    simp only [List.length_cons] at hl
    have h1 : Blk (w.setCell ⟨b, i, none⟩ v) b (L.set i v) e := by
      unfold Blk at *
      simp only [World.setCell, Array.getElem?_modify, if_true, h, Option.map_some]
      simp
    rw [World.setCells, setCells_eq r _ b (i + 1) (L.set i v) h1 (by simp; omega), setRow_setCell]
    have hi : i < L.length := by omega
    have t1 : (L.set i v).take (i + 1) = L.take i ++ [v] := by
      rw [List.take_succ_eq_append_getElem (by simpa using hi), List.take_set_of_le (Nat.le_refl _)]
      simp
    have t2 : (L.set i v).drop (i + 1 + r.length) = L.drop (i + (r.length + 1)) := by
      rw [List.drop_set_of_lt (by omega), Nat.add_assoc, Nat.add_comm 1]
    simp only [splice, List.length_cons, t1, t2]
    simp

theorem val_load1 {t : TypeId} {x : Operand} {b i : Nat} (hT : T.check P = true) (ho : o.op = .load t x) (hx : ev σ x = some (.pointer (some ⟨b, i, none⟩))) (ht : find T.one t = some ()) (hc : w.cell? ⟨b, i, none⟩ = some v) : Val P n σ o w v := by
  intro a ha
  have hs := Tbl.one_ok hT ht
  unfold oneOk at hs
  cases hu : P.underlying t with
  | none => simp [hu] at hs
  | some d =>
    have hagg : (isAgg t).run P w = .ok false w := by
      unfold isAgg
      rw [Sem.run_bind, run_underlying hu w]
      cases d <;> simp_all
    simp [execOp, ho, ha.eval hx, Instr.loadAt, Instr.sureAddr, loadVar, hagg, hc]

theorem loadVar_agg {t b i : Nat} {cs : List Value} (hT : T.check P = true) (ht : find T.ag t = some cs.length) (hc : w.rangeAt b i cs) : (loadVar t ⟨b, i, none⟩).run P w = .ok (.agg cs.toArray) w := by
  have hs := Tbl.ag_ok hT ht
  unfold agOk at hs
  cases hu : P.underlying t with
  | none => simp [hu] at hs
  | some d =>
    have hd : d.isRow = true := by cases d <;> simp_all
    refine run_loadVar_mid w b i t cs d hc hu hd ?_
    refine sizeOk_info ?_
    cases d <;> simp_all

theorem val_load {t : TypeId} {x : Operand} {b i : Nat} (cs : List Value) (hT : T.check P = true) (ho : o.op = .load t x) (hx : ev σ x = some (.pointer (some ⟨b, i, none⟩))) (ht : find T.ag t = some cs.length) (hc : w.rangeAt b i cs) : Val P n σ o w (.agg cs.toArray) := by
  intro a ha
  simp [execOp, ho, ha.eval hx, Instr.loadAt, Instr.sureAddr, loadVar_agg hT ht hc]

theorem val_index {t : TypeId} {x ix : Operand} {b q len cap sz : Nat} {kk : IntKind} (j : Nat) {i : Int} (hT : T.check P = true) (ho : o.op = .indexAddr t x ix) (hx : ev σ x = some (.slice (some ⟨b, q, none⟩) len cap)) (hi : ev σ ix = some (.int kk i))
    (ht : find T.sl t = some sz) (hij : i = (j : Int)) (hlt : j < len) (w : World) : Val P n σ o w (.pointer (some ⟨b, q + j * sz, none⟩)) := by
  intro a ha
  subst hij
  have hs := Tbl.sl_ok hT ht
  unfold slOk at hs
  split at hs
  · rename_i e hu
    have h1 : (0 : Int) ≤ (j : Int) ∧ (j : Int) < (len : Int) := by omega
    simp [execOp, ho, ha.eval hx, ha.eval hi, Instr.indexAt, asIntOf, run_underlying hu, hlt, sizeOk_run hs, Addr.add_mid]
  · cases hs

theorem val_indexArr {t : TypeId} {x ix : Operand} {b q len sz : Nat} {kk : IntKind} (j : Nat) {i : Int} (hT : T.check P = true) (ho : o.op = .indexAddr t x ix) (hx : ev σ x = some (.pointer (some ⟨b, q, none⟩))) (hi : ev σ ix = some (.int kk i))
    (ht : find T.ar t = some (len, sz)) (hij : i = (j : Int)) (hlt : j < len) (w : World) : Val P n σ o w (.pointer (some ⟨b, q + j * sz, none⟩)) := by
  intro a ha
  subst hij
  have hs := Tbl.ar_ok hT ht
  unfold arOk at hs
  split at hs
  · rename_i l e hu
    simp only [Bool.and_eq_true, beq_iff_eq] at hs
    obtain ⟨rfl, hs⟩ := hs
    simp [execOp, ho, ha.eval hx, ha.eval hi, Instr.indexAt, Instr.sureAddr, asIntOf, run_underlying hu, hlt, sizeOk_run hs, Addr.add_mid]
  · cases hs

theorem val_sliceArr {t : TypeId} {x : Operand} {b q len sz : Nat} (hT : T.check P = true) (ho : o.op = .slice t x none none none) (hx : ev σ x = some (.pointer (some ⟨b, q, none⟩))) (ht : find T.ar t = some (len, sz)) (w : World) : Val P n σ o w (.slice (some ⟨b, q, none⟩) len len) := by
  intro a ha
  have hs := Tbl.ar_ok hT ht
  unfold arOk at hs
  split at hs
  · rename_i l e hu
    simp only [Bool.and_eq_true, beq_iff_eq] at hs
    obtain ⟨rfl, hs⟩ := hs
    simp [execOp, ho, ha.eval hx, Instr.sliceAt, Instr.sliceBounds, Instr.sureAddr, run_underlying hu, sizeOk_run hs, Addr.add]
  · cases hs

/-- A slice that is not nil, held against nil. -/
theorem val_notNil {t t' : TypeId} {x : Operand} {ad : Addr} {len cap sz : Nat} (hT : T.check P = true) (ho : o.op = .binOp .eql t x (.const (.slice none 0 0)) t') (hx : ev σ x = some (.slice (some ad) len cap)) (ht : find T.sl t = some sz) (w : World) : Val P n σ o w (.bool false) := by
  intro a ha
  have hs := Tbl.sl_ok hT ht
  unfold slOk at hs
  split at hs
  · rename_i e hu
    have he : ∀ d, (Op.equalIn (d + 1) t (.slice (some ad) len cap) (.slice none 0 0)).run P w = .ok false w := fun d => by
      simp [Op.equalIn, run_underlying hu]
    have he' : (Op.equal t (.slice (some ad) len cap) (.slice none 0 0)).run P w = .ok false w := he 9999
    have hc : a.eval (.const (.slice none 0 0)) = .slice none 0 0 := rfl
    simp [execOp, ho, ha.eval hx, hc, eqGuard, binOp, he']
  · cases hs

theorem opTo_store {t : TypeId} {x y : Operand} {b i : Nat} {L : List Value} {e : TypeId} {K : Value → World → Prop} (cs : List Value) (ho : o.op = .store t x y) (hx : ev σ x = some (.pointer (some ⟨b, i, none⟩))) (hy : ev σ y = some v) (hc : v.cells = cs.toArray)
    (hz : sizeOk P t cs.length = true) (hb : Blk w b L e) (hl : i + cs.length ≤ L.length) (h1 : ∀ u ∈ cs, u.oneCell' = true) (hK : K undef (w.setRow b (splice L i cs).toArray)) : OpTo P n σ o w K := by
  refine opTo_skip (w' := w.setRow b (splice L i cs).toArray) (fun a ha => ?_) hK
  have hth := hb.there hl
  have hst := run_storeCells_cells (P := P) b i cs 0 w (fun j hj => by simpa using (hth j hj).1) (fun j hj => by simpa using (hth j hj).2) h1
  rw [Nat.add_zero, setCells_eq cs w b i L hb hl] at hst
  simp [execOp, ho, ha.eval hx, ha.eval hy, Instr.storeAt, Instr.sureAddr, storeVar, sizeOk_run hz, hst, hc]

theorem opTo_box {t : TypeId} {x : Operand} {K : Value → World → Prop} (cs : List Value) (ho : o.op = .box t x) (hx : ev σ x = some v) (hc : v.cells = cs.toArray) (hK : K (.pointer (some ⟨w.heap.size, 0, none⟩)) (w.alloc (.cells cs.toArray t))) : OpTo P n σ o w K := by
  refine opTo_run (w' := w.alloc (.cells cs.toArray t)) (fun a ha => ?_) hK
  simp [execOp, ho, ha.eval hx, Instr.box, newVar, newRow, newObj, Sem.run, hc]

theorem opTo_alloc {t : TypeId} (cs : List Value) {K : Value → World → Prop} (ho : o.op = .alloc t) (hz : ((P.info? t).bind (·.zero)).map (·.cells) = some cs.toArray) (hK : K (.pointer (some ⟨w.heap.size, 0, none⟩)) (w.alloc (.cells cs.toArray t))) : OpTo P n σ o w K := by
  refine opTo_run (w' := w.alloc (.cells cs.toArray t)) (fun a _ => ?_) hK
  cases hi : P.info? t with
  | none => simp [hi] at hz
  | some i =>
    cases hzz : i.zero with
    | none => simp [hi, hzz] at hz
    | some z =>
      have hc : z.cells = cs.toArray := by simpa [hi, hzz] using hz
      simp [execOp, ho, Instr.alloc, zeroValue, typeInfo, hi, hzz, newVar, newRow, newObj, Sem.run, hc]

def evParts (σ : Env) : List (Nat × Operand) → Option (List (Nat × Value))
  | [] => some []
  | p :: r => match ev σ p.2 with
    | none => none
    | some v => match evParts σ r with
      | none => none
      | some vs => some ((p.1, v) :: vs)
theorem Fr.parts {a : Act} (h : Fr n σ a) : ∀ {ps : List (Nat × Operand)} {vs : List (Nat × Value)}, evParts σ ps = some vs → (ps.map fun (i, x) => (i, a.eval x)) = vs
  | [], vs, hv => by simp [evParts] at hv; subst hv; rfl
  | p :: r, vs, hv => by
    simp only [evParts] at hv
    cases hx : ev σ p.2 with
    | none => simp [hx] at hv
    | some v =>
      cases hr : evParts σ r with
      | none => simp [hx, hr] at hv
      | some us =>
        simp only [hx, hr, Option.some.injEq] at hv
        subst hv
        simp [h.eval hx, h.parts hr]

theorem val_build {t : TypeId} {ps : Array (Nat × Operand)} {vs : List (Nat × Value)} (cells : List Value) (ho : o.op = .build t ps) (hv : evParts σ ps.toList = some vs) (hb : P.built t vs = some cells.toArray) (w : World) : Val P n σ o w (.agg cells.toArray) := by
  intro a ha
  have he := map_eq_toArray (ha.parts hv)
  simp only [execOp, ho]
  rw [he, Sem.run_bind, run_build w t vs.toArray cells.toArray (by simpa using hb)]
  rfl

/-- The row that a slice's literal makes. -/
def sliceCells (P : Program) (t len : Nat) (parts : List (Nat × Value)) : Option (TypeId × Array Value) :=
  match P.underlying t with
  | some (.slice e) => match P.info? e with
    | some i => if len * i.size > 2 ^ 24 then none else
      if len * i.size = 0 then (Instr.fill (fun j => some (j * i.size, i.size)) ((Array.range (len * i.size)).map fun x => ((#[] : Array Value)[x % 0]!)) parts).map fun c => (e, c)
      else match i.zero with
        | some z => (Instr.fill (fun j => some (j * i.size, i.size)) ((Array.range (len * i.size)).map fun x => (z.cells[x % z.cells.size]!)) parts).map fun c => (e, c)
        | none => none
    | none => none
  | _ => none

theorem opTo_buildSlice {t len : Nat} {ps : Array (Nat × Operand)} {vs : List (Nat × Value)} (e : TypeId) (cells : List Value) {K : Value → World → Prop} (ho : o.op = .buildSlice t len ps) (hv : evParts σ ps.toList = some vs)
    (hb : sliceCells P t len vs = some (e, cells.toArray)) (hK : K (.slice (some ⟨w.heap.size, 0, none⟩) len len) (w.alloc (.cells cells.toArray e))) : OpTo P n σ o w K := by
  refine opTo_run (w' := w.alloc (.cells cells.toArray e)) (fun a ha => ?_) hK
  have he := map_eq_toArray (ha.parts hv)
  simp only [execOp, ho]
  rw [he]
  unfold sliceCells at hb
  split at hb
  · rename_i e' hu
    split at hb
    · rename_i i hi
      split at hb
      · cases hb
      · rename_i hle
        split at hb
        · rename_i h0
          simp only [Option.map_eq_some_iff, Prod.mk.injEq] at hb
          obtain ⟨c, hc, rfl, rfl⟩ := hb
          simp only [Instr.buildSlice, Sem.run_bind, run_underlying hu, Result.andThen_ok, sizeOf, typeInfo, Sem.run_pure]
          simp [program, Sem.run, hi, h0, newRow, newObj] at hc ⊢
          simp [hc, Sem.run]
        · rename_i h0
          split at hb
          · rename_i z hz
            simp only [Option.map_eq_some_iff, Prod.mk.injEq] at hb
            obtain ⟨c, hc, rfl, rfl⟩ := hb
            simp [Instr.buildSlice, run_underlying hu, sizeOf, typeInfo, zeroValue, hi, hle, h0, hz, hc, newRow, newObj, Sem.run]
          · cases hb
    · cases hb
  · cases hb

/-! ### Calls -/
def callable (P : Program) (g : Nat) : Bool :=
  match P.funcs[g]? with
  | some fn => !(fn.name == "runtime.NumGoroutine") && fn.body.isSome
  | none => false

theorem opTo_call {c : Call} {x : Operand} {g : Nat} {fst vs cap : List Value} {K : Value → World → Prop} (ho : o.op = .call c) (hc : c.callee = .value x) (hx : ev σ x = some (.func (.func g) fst.toArray cap.toArray)) (hv : evs σ c.args.toList = some vs)
    (hg : callable P g = true) (hK : Ret P g (fst ++ vs ++ cap) w K) : OpTo P n σ o w K := fun a ha next Q hn => by
  have hargs := map_eq_toArray (ha.evals hv)
  have hrun : (execOp a.eval o).run P w = .ok (.enter g (fst ++ vs ++ cap).toArray) w := by
    unfold callable at hg
    split at hg
    · rename_i fn hfn
      simp only [Bool.and_eq_true, Bool.not_eq_true'] at hg
      have hbody : ¬ fn.body = none := by
        intro hb
        simp [hb] at hg
      have hname : ¬ fn.name = "runtime.NumGoroutine" := by simpa using hg.1
      simp [execOp, ho, resolve, hc, hargs, ha.eval hx, Deferred.ofValue, invoke, callFunc, hfn, hname, hbody]
    · cases hg
  simp only [Oper.wp, hrun, Oper.upon]
  refine Calls.mono hK fun e w' he => ?_
  obtain ⟨v, rfl, hv⟩ := he
  exact hn v w' hv

/-- A call that may panic. -/
theorem opE_call {c : Call} {x : Operand} {g : Nat} {fst vs cap : List Value} {K Kp : Value → World → Prop} (ho : o.op = .call c) (hc : c.callee = .value x) (hx : ev σ x = some (.func (.func g) fst.toArray cap.toArray)) (hv : evs σ c.args.toList = some vs)
    (hg : callable P g = true) (hK : End P g (fst ++ vs ++ cap) w K Kp) : OpE P n σ o w K Kp := fun a ha next Q hn hp => by
  have hargs := map_eq_toArray (ha.evals hv)
  have hrun : (execOp a.eval o).run P w = .ok (.enter g (fst ++ vs ++ cap).toArray) w := by
    unfold callable at hg
    split at hg
    · rename_i fn hfn
      simp only [Bool.and_eq_true, Bool.not_eq_true'] at hg
      have hbody : ¬ fn.body = none := by
        intro hb
        simp [hb] at hg
      have hname : ¬ fn.name = "runtime.NumGoroutine" := by simpa using hg.1
      simp [execOp, ho, resolve, hc, hargs, ha.eval hx, Deferred.ofValue, invoke, callFunc, hfn, hname, hbody]
    · cases hg
  simp only [Oper.wp, hrun, Oper.upon]
  refine Calls.mono hK fun e w' he => ?_
  rcases he with ⟨v, rfl, hv⟩ | ⟨v, rfl, hv⟩
  · exact hn v w' hv
  · exact hp v w' hv
end

/-! ### Steps that are taken by themselves: what is left to be shown is what they come to -/
/-- What is left to be shown, shut away. -/
structure Bx (p : Prop) : Prop where
  out : p
/-- All steps that look at slots alone. -/
theorem au {G X : Prop} (x : X) (h : Bx X → G := by (intro z; (repeat (first | refine pl_pure hT rfl rfl rfl ?_ | refine pl_nil ?_ | refine rn_seq ?_ | refine rn_plain ?_ | refine rn_block ?_ | refine rn_inBlock ?_ | refine rn_skip ?_ | refine rn_true rfl ?_ | refine rn_false rfl ?_ | refine rn_exit rfl ?_ | refine pl_not rfl rfl ?_)); exact z.out)) : G := h ⟨x⟩
/-- The same, ahead of the next statement. -/
theorem auj {G X : Prop} (x : X) (h : Bx X → G := by (intro z; (repeat (first | refine pl_pure hT rfl rfl rfl ?_ | refine pl_not rfl rfl ?_ | refine pl_nil ?_ | refine rn_inBlock ?_ | refine rn_skip ?_ | refine rn_true rfl ?_ | refine rn_false rfl ?_ | refine rn_exit rfl ?_)); exact z.out)) : G := h ⟨x⟩
/-- With loads and comparisons. -/
theorem aub {G X : Prop} (x : X) (h : Bx X → G := by (intro z; (repeat (first | refine pl_pure hT rfl rfl rfl ?_ | refine pl_nil ?_ | refine rn_seq ?_ | refine rn_plain ?_ | refine rn_block ?_ | refine rn_inBlock ?_ | refine rn_skip ?_ | refine rn_true rfl ?_ | refine rn_false rfl ?_ | refine rn_exit rfl ?_ | refine pl_not rfl rfl ?_ | refine pl_val _ rfl rfl (val_load1 hT rfl rfl rfl (Blk.cell (by assumption) (by rfl))) ?_ | refine pl_yes rfl rfl rfl rfl rfl (by first | (simp only [cmpP]; omega) | (simp [cmpP]; done) | (simp [cmpP]; omega)) ?_ | refine pl_no rfl rfl rfl rfl rfl rfl (by first | (simp only [cmpP]; omega) | (simp [cmpP]; done) | (simp [cmpP]; omega)) ?_)); exact z.out)) : G := h ⟨x⟩
/-- With loads and comparisons, ahead of the next statement. -/
theorem aubj {G X : Prop} (x : X) (h : Bx X → G := by (intro z; (repeat (first | refine pl_pure hT rfl rfl rfl ?_ | refine pl_nil ?_ | refine rn_inBlock ?_ | refine rn_skip ?_ | refine rn_true rfl ?_ | refine rn_false rfl ?_ | refine rn_exit rfl ?_ | refine pl_not rfl rfl ?_ | refine pl_val _ rfl rfl (val_load1 hT rfl rfl rfl (Blk.cell (by assumption) (by rfl))) ?_ | refine pl_yes rfl rfl rfl rfl rfl (by first | (simp only [cmpP]; omega) | (simp [cmpP]; done) | (simp [cmpP]; omega)) ?_ | refine pl_no rfl rfl rfl rfl rfl rfl (by first | (simp only [cmpP]; omega) | (simp [cmpP]; done) | (simp [cmpP]; omega)) ?_)); exact z.out)) : G := h ⟨x⟩
/-- A comparison that is so. -/
theorem ye {G X : Prop} (x : X) (h : Bx X → G := by (intro z; refine pl_yes rfl rfl rfl rfl rfl (by first | (simp only [cmpP]; omega) | (simp [cmpP]; done) | (simp [cmpP]; omega)) ?_; exact z.out)) : G := h ⟨x⟩
/-- A comparison that is not so. -/
theorem nay {G X : Prop} (x : X) (h : Bx X → G := by (intro z; refine pl_no rfl rfl rfl rfl rfl rfl (by first | (simp only [cmpP]; omega) | (simp [cmpP]; done) | (simp [cmpP]; omega)) ?_; exact z.out)) : G := h ⟨x⟩
/-- Of number i of a region that draws its order. -/
def Tg (_ : Nat) (p : Prop) : Prop := p
section
variable {P : Program} {T : Tbl} {n f fuel m i : Nat} {ops : Array Oper} {k : List Item} {R : Post} {S : World → Prop} {T' : List Nat} {σ : Env} {o : Oper} {w : World} {v : Value}
theorem tg_id {p : Prop} : Tg i (p → p) := id
theorem tg_pure (hT : T.check P = true) (ho : ops[i]? = some o) (hk : takeOk ops m i = true) (hg : guardOf ops σ o.guard = some true) (hv : pureOp T σ o.op = some v) (hd : dstOk n o.dst = true) :
    Tg i (Dr P f n ops k R S T' fuel (m ||| 2 ^ i) (put σ o.dst v) w → Dr P f n ops k R S T' (fuel + 1) m σ w) := fun h => dr_pure i hT ho hk hg hv hd h
theorem tg_not (ho : ops[i]? = some o) (hk : takeOk ops m i = true) (hg : guardOf ops σ o.guard = some false) (hd : dstOk n o.dst = true) :
    Tg i (Dr P f n ops k R S T' fuel (m ||| 2 ^ i) (put σ o.dst undef) w → Dr P f n ops k R S T' (fuel + 1) m σ w) := fun h => dr_not i ho hk hg hd h
theorem tg_val (ho : ops[i]? = some o) (hk : (takeOk ops m i && waitsFor ops T' i) = true) (hg : guardOf ops σ o.guard = some true) (hd : dstOk n o.dst = true) (hv : ∀ w, S w → Val P n σ o w v) (hS : S w) :
    Tg i (Dr P f n ops k R S T' fuel (m ||| 2 ^ i) (put σ o.dst v) w → Dr P f n ops k R S T' (fuel + 1) m σ w) := fun h => dr_val i v ho hk hg hd hv hS h
end
/-- It is taken: it looks at slots alone. -/
theorem tk {G X : Prop} (i : Nat) (x : X) (h : Tg i (X → G) := by exact tg_pure hT rfl (by decide +kernel) rfl rfl rfl) : G := h x
/-- It is taken, if it can be. -/
theorem dp {G X : Prop} (i : Nat) (x : X) (h : Tg i (X → G) := by (first | exact tg_pure hT rfl (by decide +kernel) rfl rfl rfl | exact tg_not rfl (by decide +kernel) rfl rfl | exact tg_val rfl (by decide +kernel) rfl rfl (fun w9 hS9 => val_load1 hT rfl rfl rfl (Blk.cell hS9.2 (by rfl))) hS | exact tg_yes rfl (by decide +kernel) rfl rfl rfl rfl rfl (by first | (simp only [cmpP]; omega) | (simp [cmpP]; done) | (simp [cmpP]; omega)) | exact tg_no rfl (by decide +kernel) rfl rfl rfl rfl rfl rfl (by first | (simp only [cmpP]; omega) | (simp [cmpP]; done) | (simp [cmpP]; omega)) | exact tg_id)) : G := h x
/-- A comparison that is so; that is not so. -/
theorem dye {G X : Prop} (i : Nat) (x : X) (h : Tg i (X → G) := by exact tg_yes rfl (by decide +kernel) rfl rfl rfl rfl rfl (by first | (simp only [cmpP]; omega) | (simp [cmpP]; done) | (simp [cmpP]; omega))) : G := h x
theorem dno {G X : Prop} (i : Nat) (x : X) (h : Tg i (X → G) := by exact tg_no rfl (by decide +kernel) rfl rfl rfl rfl rfl rfl (by first | (simp only [cmpP]; omega) | (simp [cmpP]; done) | (simp [cmpP]; omega))) : G := h x
end E
end Go.Proofs.YtbojicehfbeepadDoor

/- What the proofs know of the program's types. -/
namespace Go.Proofs.YtbojicehfbeepadDoor
set_option maxRecDepth 20000
set_option maxHeartbeats 4000000
namespace E
open Go.Proofs

def tbl : Tbl := { fld := [(24, [(0, 0), (1, 1)]), (25, [(0, 0), (1, 1)]), (29, [(0, 0), (1, 1)]), (30, [(0, 0), (1, 1)]), (34, [(0, 0), (1, 1)]), (35, [(0, 0), (1, 1)]), (37, [(0, 0), (1, 1), (2, 2), (3, 3)]), (38, [(0, 0), (1, 1), (2, 2), (3, 3)]), (39, [(0, 0), (1, 1), (2, 2), (3, 6), (4, 10), (5, 11)]), (40, [(0, 0), (1, 1), (2, 2), (3, 6), (4, 10), (5, 11)]), (54, [(0, 0), (1, 1), (2, 2), (3, 3), (4, 4)]), (55, [(0, 0), (1, 1), (2, 2), (3, 3), (4, 4)]), (60, [(0, 0), (1, 1)]), (61, [(0, 0), (1, 1)]), (62, [(0, 0), (1, 2)]), (63, [(0, 0), (1, 2)]), (64, [(0, 0), (1, 3)]), (65, [(0, 0), (1, 3)]), (71, [(0, 0), (1, 2), (2, 3)]), (72, [(0, 0), (1, 2), (2, 3)]), (135, [(0, 0), (1, 1), (2, 2), (3, 3), (4, 4), (5, 5), (6, 6), (7, 7), (8, 8), (9, 9), (10, 10)])], sl := [(22, 2), (23, 12), (36, 4), (59, 1), (84, 1)], ar := [(103, (8, 1)), (105, (24, 1)), (113, (9, 1)), (115, (20, 1)), (117, (65, 1)), (122, (32, 1)), (123, (64, 1)), (126, (0, 1))], one := [(1, ()), (2, ()), (3, ()), (4, ()), (5, ()), (6, ()), (9, ()), (10, ()), (11, ()), (12, ()), (15, ()), (16, ()), (17, ()), (21, ()), (22, ()), (23, ()), (26, ()), (27, ()), (28, ()), (32, ()), (33, ()), (36, ()), (41, ()), (42, ()), (43, ()), (44, ()), (45, ()), (46, ()), (47, ()), (48, ()), (49, ()), (50, ()), (51, ()), (52, ()), (53, ()), (56, ()), (57, ()), (58, ()), (59, ()), (66, ()), (67, ()), (68, ()), (69, ()), (70, ()), (73, ()), (74, ()), (75, ()), (76, ()), (77, ()), (78, ()), (79, ()), (80, ()), (81, ()), (82, ()), (83, ()), (84, ()), (87, ()), (89, ()), (91, ()), (92, ()), (93, ()), (94, ()), (95, ()), (96, ()), (97, ()), (98, ()), (99, ()), (100, ()), (101, ()), (102, ()), (104, ()), (106, ()), (107, ()), (108, ()), (110, ()), (112, ()), (114, ()), (116, ()), (118, ()), (119, ()), (120, ()), (121, ()), (129, ()), (130, ()), (131, ()), (132, ()), (133, ()), (134, ())], ag := [(24, 2), (25, 2), (29, 2), (30, 2), (34, 2), (35, 2), (37, 4), (38, 4), (39, 12), (40, 12), (54, 5), (55, 5), (60, 2), (61, 2), (62, 3), (63, 3), (64, 4), (65, 4), (71, 4), (72, 4), (103, 8), (105, 24), (113, 9), (115, 20), (117, 65), (122, 32), (123, 64), (126, 0), (135, 11)] }
theorem hT : tbl.check Tryd.prog = true := by decide +kernel
theorem hMix : Tryd.prog.follows .mixedOrders = true := by decide +kernel
end E
end Go.Proofs.YtbojicehfbeepadDoor

/- What a call leaves alone: 'Keep fp w w'': of the blocks that lay there in w none but those of fp has turned in w'. And the law of append for the engine. -/
namespace Go.Proofs.YtbojicehfbeepadDoor
set_option maxRecDepth 20000
set_option maxHeartbeats 4000000
namespace E

structure Keep (fp : List Nat) (w w' : World) : Prop where
  os : w'.os = w.os
  tape : w'.tape = w.tape
  output : w'.output = w.output
  size : w.heap.size ≤ w'.heap.size
  block : ∀ k, k < w.heap.size → k ∉ fp → w'.heap[k]? = w.heap[k]?

section
variable {fp fp' : List Nat} {w w' w'' : World}
theorem Keep.refl (fp : List Nat) (w : World) : Keep fp w w := ⟨rfl, rfl, rfl, Nat.le_refl _, fun _ _ _ => rfl⟩
theorem Keep.trans (h : Keep fp w w') (h' : Keep fp' w' w'') (hf : ∀ k ∈ fp', k ∈ fp ∨ w.heap.size ≤ k) : Keep fp w w'' :=
  ⟨h'.os.trans h.os, h'.tape.trans h.tape, h'.output.trans h.output, Nat.le_trans h.size h'.size, fun k hk hn =>
    (h'.block k (Nat.lt_of_lt_of_le hk h.size) (fun hm => (hf k hm).elim hn fun h1 => absurd hk (Nat.not_lt.2 h1))).trans (h.block k hk hn)⟩
theorem Keep.tr (h : Keep fp w w') (h' : Keep fp w' w'') : Keep fp w w'' := h.trans h' fun _ hk => .inl hk
theorem Keep.tr0 (h : Keep fp w w') (h' : Keep [] w' w'') : Keep fp w w'' := h.trans h' fun _ hk => by cases hk
theorem Keep.mono (h : Keep fp w w') (hf : ∀ k ∈ fp, k ∈ fp' ∨ w.heap.size ≤ k) : Keep fp' w w' := (Keep.refl fp' w).trans h hf
theorem Keep.of0 (h : Keep [] w w') : Keep fp w w' := h.mono fun _ hk => by cases hk
theorem Keep.drew (h : Keep fp w w') : Keep fp w w'.drew := ⟨h.os, h.tape, h.output, h.size, h.block⟩
theorem Keep.alloc (h : Keep fp w w') (ob : Obj) : Keep fp w (w'.alloc ob) :=
  ⟨h.os, h.tape, h.output, by rw [World.size_alloc]; exact Nat.le_succ_of_le h.size, fun k hk hn => (heap_alloc_old w' ob k (Nat.lt_of_lt_of_le hk h.size)).trans (h.block k hk hn)⟩
theorem setRow_size (w : World) (b : Nat) (X : Array Value) : (w.setRow b X).heap.size = w.heap.size := by simp [World.setRow]
theorem Keep.setRow (h : Keep fp w w') (b : Nat) (X : Array Value) (hb : b ∈ fp ∨ w.heap.size ≤ b) : Keep fp w (w'.setRow b X) :=
  ⟨h.os, h.tape, h.output, by rw [setRow_size]; exact h.size, fun k hk hn => by
    have hne : k ≠ b := fun e => hb.elim (fun h1 => hn (e ▸ h1)) fun h1 => absurd hk (Nat.not_lt.2 (e ▸ h1))
    rw [setRow_other _ b k X hne]; exact h.block k hk hn⟩
theorem Keep.grown {row : Option Nat} (h : Keep fp w w') (hg : w'.grownBy w'' row) (hr : ∀ k, row = some k → k ∈ fp ∨ w.heap.size ≤ k) : Keep fp w w'' :=
  ⟨hg.os.trans h.os, hg.tape.trans h.tape, hg.output.trans h.output, Nat.le_trans h.size hg.size, fun k hk hn =>
    (hg.block k (Nat.lt_of_lt_of_le hk h.size) (fun e => (hr k e.symm).elim hn fun h1 => absurd hk (Nat.not_lt.2 h1))).trans (h.block k hk hn)⟩
theorem Keep.blk (h : Keep fp w w') {b : Nat} {L : List Value} {e : TypeId} (hb : Blk w b L e) (hn : b ∉ fp) : Blk w' b L e := (h.block b hb.lt hn).trans hb
theorem Keep.owns (h : Keep fp w w') {base e size n : Nat} {v : Value} {xs : List Value} (ho : w.ownsRow base e size v n xs) (hn : ∀ k, v.ownBlock = some k → k ∉ fp) : w'.ownsRow base e size v n xs := by
  refine ⟨ho.1, ?_⟩
  rcases ho.2 with h0 | ⟨g, cap, cur, rfl, hb, hg, r⟩
  · exact .inl h0
  · refine .inr ⟨g, cap, cur, rfl, hb, ?_, r⟩
    rw [h.block g (Array.getElem?_eq_some_iff.1 hg).1 (hn g rfl)]
    exact hg
theorem Keep.below (h : Keep fp w w') (hf : ∀ k ∈ fp, w.heap.size ≤ k) : Go.RowKit.Below w.heap.size w w' :=
  ⟨h.os, h.tape, h.output, h.size, fun k hk => h.block k hk fun hm => by have := hf k hm; omega⟩
end

theorem owns_range {w : World} {base e size n g cap q : Nat} {xs cs : List Value} (h : w.ownsRow base e size (.slice (some ⟨g, 0, none⟩) n cap) n xs) (hc : (xs.drop q).take cs.length = cs) : w.rangeAt g q cs := fun j u hu => by
  rw [← hc, List.getElem?_take] at hu
  split at hu
  · have := h.cells (g := g) rfl (q + j) u (by simpa using hu)
    rwa [Addr.add_mid, Nat.zero_add] at this
  · cases hu

theorem flat_at {α : Type} {f : α → List Value} {k : Nat} : ∀ {L : List α} {j : Nat} {p : α}, (∀ p ∈ L, (f p).length = k) → L[j]? = some p → ((L.flatMap f).drop (j * k)).take k = f p
  | [], _, _, _, h => by simp at h
  | a :: r, 0, p, hk, h => by
    simp at h
    subst h
    have := hk a (by simp)
    simp [← this]
  | a :: r, j + 1, p, hk, h => by
    simp only [List.getElem?_cons_succ] at h
    have ha := hk a (by simp)
    have ih := flat_at (f := f) (k := k) (fun p hp => hk p (List.mem_cons_of_mem _ hp)) h
    rw [List.flatMap_cons, Nat.succ_mul, Nat.add_comm, ← List.drop_drop]
    rw [← ha, List.drop_left, ha]
    exact ih

theorem flat_length {α : Type} {f : α → List Value} {k : Nat} : ∀ {L : List α}, (∀ p ∈ L, (f p).length = k) → (L.flatMap f).length = L.length * k
  | [], _ => by simp
  | a :: r, hk => by
    rw [List.flatMap_cons, List.length_append, hk a (by simp), flat_length fun p hp => hk p (List.mem_cons_of_mem _ hp), List.length_cons, Nat.succ_mul]
    omega

/-! ### append -/
def appOk (P : Program) (t e size bytes : Nat) : Bool :=
  match P.underlying t with
  | some (.slice e') => e' == e && (match P.info? e with
    | some i => i.size == size && i.bytes == bytes && (match i.zero with | some z => z.cells.size == size | none => false)
    | none => false)
  | _ => false

theorem appOk_run {P : Program} {t e size bytes : Nat} (h : appOk P t e size bytes = true) :
    ∃ i z, P.underlying t = some (.slice e) ∧ P.info? e = some i ∧ i.zero = some z ∧ i.size = size ∧ i.bytes = bytes ∧ z.cells.size = size := by
  unfold appOk at h
  split at h
  · rename_i e' hu
    simp only [Bool.and_eq_true, beq_iff_eq] at h
    obtain ⟨rfl, h⟩ := h
    split at h
    · rename_i i hi
      simp only [Bool.and_eq_true, beq_iff_eq] at h
      obtain ⟨⟨h1, h2⟩, h3⟩ := h
      split at h3
      · rename_i z hz
        exact ⟨i, z, hu, hi, hz, h1, h2, by simpa using h3⟩
      · cases h3
    · cases h
  · cases h

theorem opTo_append {P : Program} {n : Nat} {σ : Env} {o : Oper} {w : World} {v : Value} {t : TypeId} {s x : Operand} {b q m c ln : Nat} {K : Value → World → Prop} (base e size bytes : Nat) (xs news : List Value)
    (ho : o.op = .call { callee := .builtin .append, args := #[s, x], argTypes := #[t, t] }) (hs : ev σ s = some v) (hx : ev σ x = some (.slice (some ⟨b, q, none⟩) m c))
    (hP : appOk P t e size bytes = true) (hsz : 0 < size) (hown : w.ownsRow base e size v ln xs) (hnews : w.rangeAt b q news) (hl : news.length = m * size) (h1 : ∀ u ∈ news, u.oneCell' = true)
    (hm : 0 < m) (h63 : ln + m ≤ maxLen) (hbytes : (ln + m) * bytes ≤ 140737488355328) (hbase : base ≤ w.heap.size)
    (hK : ∀ g cap w', w'.ownsRow base e size (.slice (some ⟨g, 0, none⟩) (ln + m) cap) (ln + m) (xs ++ news) → w.grownBy w' v.ownBlock → (v.ownBlock = some g ∨ g = w.heap.size) → g < w'.heap.size → K (.slice (some ⟨g, 0, none⟩) (ln + m) cap) w') : OpTo P n σ o w K := by
  obtain ⟨i, z, hu, hi, hz, hsize, hby, hzs⟩ := appOk_run hP
  obtain ⟨g, cap, w', hr, h2, h3, h4, h5⟩ := run_append_lies (P := P) w t o.type base e i z size bytes hu hi hz hsize hby hzs hsz v ln xs hown ⟨b, q, none⟩ m c news hl (fun j u hj => by rw [Addr.add_mid]; exact hnews j u hj) h1 hm h63 hbytes hbase _ rfl
  refine opTo_run (w' := w') (v := .slice (some ⟨g, 0, none⟩) (ln + m) cap) (fun a ha => ?_) (hK g cap w' h2 h3 h4 h5)
  simp [execOp, ho, resolve, invoke, builtin, ha.eval hs, ha.eval hx, hr]
end E
end Go.Proofs.YtbojicehfbeepadDoor

/- Rows of int64 as values: how they are held against one another, and one of them out of a row. -/
namespace Go.Proofs.YtbojicehfbeepadDoor
set_option maxRecDepth 20000
set_option maxHeartbeats 4000000
namespace E

def ints (l : List Int) : List Value := l.map fun x => .int .i64 x
theorem ints_length (l : List Int) : (ints l).length = l.length := by simp [ints]
theorem ints_one (l : List Int) : ∀ u ∈ ints l, u.oneCell' = true := by
  intro u hu
  simp only [ints, List.mem_map] at hu
  obtain ⟨x, _, rfl⟩ := hu
  rfl

theorem list8 {l : List Int} (h : l.length = 8) : ∃ a b c d e f g i, l = [a, b, c, d, e, f, g, i] := by
  match l, h with
  | [a, b, c, d, e, f, g, i], _ => exact ⟨a, b, c, d, e, f, g, i, rfl⟩


def arrInt (P : Program) (t len : Nat) : Bool :=
  match P.underlying t with
  | some (.array l e) => l == len && (match P.underlying e with | some (.int _) => true | _ => false) && sizeOk P e 1 && !(P.eqGuardType P.depth t)
  | _ => false

theorem arrInt_spec {P : Program} {t len : Nat} (h : arrInt P t len = true) :
    ∃ e k i, P.underlying t = some (.array len e) ∧ P.underlying e = some (.int k) ∧ P.info? e = some i ∧ i.size = 1 ∧ P.eqGuardType P.depth t = false := by
  unfold arrInt at h
  split at h
  · rename_i l e hu
    simp only [Bool.and_eq_true, beq_iff_eq, Bool.not_eq_true'] at h
    obtain ⟨⟨⟨rfl, h1⟩, h2⟩, h3⟩ := h
    split at h1
    · rename_i k hk
      unfold sizeOk at h2
      split at h2
      · rename_i i hi
        exact ⟨e, k, i, hu, hk, hi, by simpa using h2, h3⟩
      · cases h2
    · cases h1
  · cases h

theorem part_ints {P : Program} {e : TypeId} {k : IntKind} {l : List Int} {j : Nat} {x : Int} (hu : P.underlying e = some (.int k)) (hx : l[j]? = some x) (w : World) : (part e (ints l).toArray j).run P w = .ok (.int .i64 x) w := by
  have hg : (ints l).toArray[j]? = some (.int .i64 x) := by simp [ints, hx]
  simp [part, isAgg, run_underlying hu, hg]

theorem run_eqItems_ints {P : Program} {e : TypeId} {k : IntKind} (hu : P.underlying e = some (.int k)) (d : Nat) (xs ys : List Int) (w : World) : ∀ (is : List Nat), (∀ i ∈ is, i < xs.length ∧ i < ys.length) →
    (Op.eqItems (d + 1) e 1 (ints xs).toArray (ints ys).toArray is).run P w = .ok (decide (∀ i ∈ is, xs[i]? = ys[i]?)) w
  | [], _ => by simp [Op.eqItems]
  | i :: is, h => by
    obtain ⟨h1, h2⟩ := h i (by simp)
    have hx : xs[i]? = some xs[i] := List.getElem?_eq_getElem h1
    have hy : ys[i]? = some ys[i] := List.getElem?_eq_getElem h2
    have ih := run_eqItems_ints hu d xs ys w is fun j hj => h j (List.mem_cons_of_mem _ hj)
    simp only [Op.eqItems, Nat.mul_one, Sem.run_bind, part_ints hu hx, part_ints hu hy, Result.andThen_ok, run_equalIn_int w d e .i64 k _ _ hu]
    by_cases hxy : xs[i] = ys[i]
    · have hb : (xs[i] == ys[i]) = true := by simpa using hxy
      have hp : xs[i]? = ys[i]? := by rw [hx, hy, hxy]
      simp only [hb, Bool.not_true, Bool.false_eq_true, if_false, ih, List.forall_mem_cons, hp, true_and]
    · have hb : (xs[i] == ys[i]) = false := by simpa using hxy
      have hn : ¬ (xs[i]? = ys[i]?) := by rw [hx, hy]; simpa using hxy
      simp only [hb, Bool.not_false, if_true, Sem.run_pure, List.forall_mem_cons, hn, false_and, decide_false]

theorem run_equal_ints {P : Program} {t len : Nat} (h : arrInt P t len = true) {xs ys : List Int} (hx : xs.length = len) (hy : ys.length = len) (w : World) : (Op.equal t (.agg (ints xs).toArray) (.agg (ints ys).toArray)).run P w = .ok (decide (xs = ys)) w := by
  obtain ⟨e, k, i, hu, hk, hi, hs, _⟩ := arrInt_spec h
  have hc : P.cellsOf e = 1 := by simp [Program.cellsOf, hi, hs]
  have he : (Op.equal t (.agg (ints xs).toArray) (.agg (ints ys).toArray)).run P w = (Op.eqItems (9998 + 1) e (P.cellsOf e) (ints xs).toArray (ints ys).toArray (List.range len)).run P w :=
    run_equalIn_array w 9999 (ints xs).toArray (ints ys).toArray hu hi
  rw [he, hc, run_eqItems_ints hk 9998 xs ys w (List.range len) (fun j hj => by have := List.mem_range.1 hj; omega)]
  congr 1
  refine decide_eq_decide.2 ⟨fun hall => List.ext_getElem? fun j => ?_, fun e _ _ => by rw [e]⟩
  by_cases hj : j < len
  · exact hall j (List.mem_range.2 hj)
  · rw [List.getElem?_eq_none (by omega), List.getElem?_eq_none (by omega)]

section
variable {P : Program} {T : Tbl} {n : Nat} {σ : Env} {o : Oper}
theorem val_eqInts {t t' len : Nat} {x y : Operand} (xs ys : List Int) (h : arrInt P t len = true) (ho : o.op = .binOp .eql t x y t') (hx : ev σ x = some (.agg (ints xs).toArray)) (hy : ev σ y = some (.agg (ints ys).toArray))
    (lx : xs.length = len) (ly : ys.length = len) (r : Bool) (hr : decide (xs = ys) = r) (w : World) : Val P n σ o w (.bool r) := by
  intro a ha
  subst hr
  obtain ⟨_, _, _, _, _, _, _, hq⟩ := arrInt_spec h
  simp [execOp, ho, ha.eval hx, ha.eval hy, eqGuard, hq, binOp, run_equal_ints h lx ly]
theorem val_neInts {t t' len : Nat} {x y : Operand} (xs ys : List Int) (h : arrInt P t len = true) (ho : o.op = .binOp .neq t x y t') (hx : ev σ x = some (.agg (ints xs).toArray)) (hy : ev σ y = some (.agg (ints ys).toArray))
    (lx : xs.length = len) (ly : ys.length = len) (r : Bool) (hr : (!decide (xs = ys)) = r) (w : World) : Val P n σ o w (.bool r) := by
  intro a ha
  subst hr
  obtain ⟨_, _, _, _, _, _, _, hq⟩ := arrInt_spec h
  simp [execOp, ho, ha.eval hx, ha.eval hy, eqGuard, hq, binOp, run_equal_ints h lx ly]

/-- One word out of a row that is a value. -/
theorem val_at {t len : Nat} {x ix : Operand} {kk : IntKind} (xs : List Int) (j : Nat) {i c : Int} (h : arrInt P t len = true) (ho : o.op = .index t x ix) (hx : ev σ x = some (.agg (ints xs).toArray)) (hi : ev σ ix = some (.int kk i))
    (hij : i = (j : Int)) (hj : j < len) (hc : xs[j]? = some c) (w : World) : Val P n σ o w (.int .i64 c) := by
  intro a ha
  subst hij
  obtain ⟨e, k, inf, hu, hk, hinf, hs, _⟩ := arrInt_spec h
  have hsz : (sizeOf e).run P w = .ok 1 w := by simp [sizeOf, typeInfo, hinf, hs]
  simp [execOp, ho, ha.eval hx, ha.eval hi, Instr.index, asIntOf, run_underlying hu, hj, hsz, part_ints hk hc]
end
end E
end Go.Proofs.YtbojicehfbeepadDoor

/- More laws of single operations: cutting a slice or an array, copy, a field of a value. -/
namespace Go.Proofs.YtbojicehfbeepadDoor
set_option maxRecDepth 20000
set_option maxHeartbeats 4000000
namespace E

section
variable {P : Program} {T : Tbl} {n : Nat} {σ : Env} {o : Oper} {w : World} {v : Value}

/-- s[:h]. -/
theorem val_sliceTo {t : TypeId} {x hi : Operand} {a : Option Addr} {len cap sz : Nat} {k1 : IntKind} {i1 : Int} (h : Nat) (hT : T.check P = true) (ho : o.op = .slice t x none (some hi) none) (hx : ev σ x = some (.slice a len cap))
    (h1 : ev σ hi = some (.int k1 i1)) (ht : find T.sl t = some sz) (e1 : i1 = (h : Int)) (hm : h ≤ cap) (w : World) : Val P n σ o w (.slice a h cap) := by
  intro ac ha
  subst e1
  have hs := Tbl.sl_ok hT ht
  unfold slOk at hs
  split at hs
  · rename_i e hu
    simp [execOp, ho, ha.eval hx, ha.eval h1, Instr.sliceAt, Instr.slice, Instr.sliceBounds, Instr.sliceBound, asIntOf, run_underlying hu, sizeOk_run hs, hm]
    cases a <;> simp [Addr.add]
  · cases hs

/-- x[l:], of an array. -/
theorem val_sliceArrFrom {t : TypeId} {x lo : Operand} {b q len sz : Nat} {k1 : IntKind} {i1 : Int} (l : Nat) (hT : T.check P = true) (ho : o.op = .slice t x (some lo) none none) (hx : ev σ x = some (.pointer (some ⟨b, q, none⟩)))
    (h1 : ev σ lo = some (.int k1 i1)) (ht : find T.ar t = some (len, sz)) (e1 : i1 = (l : Int)) (hm : l < len) (w : World) : Val P n σ o w (.slice (some ⟨b, q + l * sz, none⟩) (len - l) (len - l)) := by
  intro a ha
  subst e1
  have hs := Tbl.ar_ok hT ht
  unfold arOk at hs
  split at hs
  · rename_i l' e hu
    simp only [Bool.and_eq_true, beq_iff_eq] at hs
    obtain ⟨rfl, hs⟩ := hs
    have hle : l ≤ l' := Nat.le_of_lt hm
    have hne : ¬ l' = l := by omega
    simp [execOp, ho, ha.eval hx, ha.eval h1, Instr.sliceAt, Instr.sliceBounds, Instr.sliceBound, asIntOf, Instr.sureAddr, run_underlying hu, sizeOk_run hs, hle, hne, Addr.add_mid]
  · cases hs

def copyOk (P : Program) (t : Nat) : Bool :=
  match P.underlying t with
  | some (.slice e) => sizeOk P e 1
  | _ => false

theorem opTo_copy {t t' : TypeId} {x y : Operand} {b q dl dc b' q' sl sc : Nat} {L : List Value} {e : TypeId} {K : Value → World → Prop} (cs : List Value)
    (ho : o.op = .call { callee := .builtin .copy, args := #[x, y], argTypes := #[t, t'] }) (hx : ev σ x = some (.slice (some ⟨b, q, none⟩) dl dc)) (hy : ev σ y = some (.slice (some ⟨b', q', none⟩) sl sc))
    (hP : copyOk P t = true) (hb : Blk w b L e) (hn : cs.length = Nat.min sl dl) (hsrc : w.rangeAt b' q' cs) (hl : q + cs.length ≤ L.length) (h1 : ∀ u ∈ cs, u.oneCell' = true)
    (hK : ∀ r, K r (w.setRow b (splice L q cs).toArray)) : OpTo P n σ o w K := by
  unfold copyOk at hP
  split at hP
  · rename_i el hu
    refine opTo_run (v := goInt cs.length) (w' := w.setRow b (splice L q cs).toArray) (fun a ha => ?_) (hK _)
    have hr := run_copy_row P w t t' o.type el b q dl dc ⟨b', q', none⟩ sl sc L.toArray e cs hu (sizeOk_info hP) hb hn (fun j u hj => by rw [Addr.add_mid]; exact hsrc j u hj) (by simpa using hl) h1
    have hr' : (Builtin.copy_ #[t, t'] o.type #[.slice (some ⟨b, q, none⟩) dl dc, .slice (some ⟨b', q', none⟩) sl sc]).run P w = .ok (goInt cs.length) (w.setRow b (splice L q cs).toArray) := by
      rw [hr]; simp [splice]
    simp [execOp, ho, resolve, invoke, builtin, ha.eval hx, ha.eval hy, hr']
  · cases hP

def fieldOne (P : Program) (s f off : Nat) : Bool :=
  match P.underlying s with
  | some (.struct fs) => match fs[f]? with
    | some d => d.offset == off && oneOk P d.type
    | none => false
  | _ => false
def fieldAgg (P : Program) (s f off m : Nat) : Bool :=
  match P.underlying s with
  | some (.struct fs) => match fs[f]? with
    | some d => d.offset == off && agOk P d.type m
    | none => false
  | _ => false

theorem oneOk_isAgg {t : Nat} (hs : oneOk P t = true) (w : World) : (isAgg t).run P w = .ok false w := by
  unfold oneOk at hs
  cases hu : P.underlying t with
  | none => simp [hu] at hs
  | some d =>
    unfold isAgg
    rw [Sem.run_bind, run_underlying hu w]
    cases d <;> simp_all
theorem agOk_isAgg {t m : Nat} (hs : agOk P t m = true) (w : World) : (isAgg t).run P w = .ok true w ∧ sizeOk P t m = true := by
  unfold agOk at hs
  cases hu : P.underlying t with
  | none => simp [hu] at hs
  | some d =>
    unfold isAgg
    rw [Sem.run_bind, run_underlying hu w]
    cases d <;> simp_all

theorem val_field1 {s f : Nat} {x : Operand} (off : Nat) (cs : List Value) (ho : o.op = .field s x f) (hx : ev σ x = some (.agg cs.toArray)) (hP : fieldOne P s f off = true) (hv : cs[off]? = some v) (w : World) : Val P n σ o w v := by
  intro a ha
  unfold fieldOne at hP
  split at hP
  · rename_i fs hu
    split at hP
    · rename_i d hd
      simp only [Bool.and_eq_true, beq_iff_eq] at hP
      obtain ⟨rfl, hP⟩ := hP
      simp [execOp, ho, ha.eval hx, Instr.field, run_underlying hu, hd, asAgg, part, oneOk_isAgg hP, hv]
    · cases hP
  · cases hP
theorem val_fieldAgg {s f m : Nat} {x : Operand} (off : Nat) (cs ds : List Value) (ho : o.op = .field s x f) (hx : ev σ x = some (.agg cs.toArray)) (hP : fieldAgg P s f off m = true) (hv : (cs.drop off).take m = ds) (w : World) : Val P n σ o w (.agg ds.toArray) := by
  intro a ha
  unfold fieldAgg at hP
  split at hP
  · rename_i fs hu
    split at hP
    · rename_i d hd
      simp only [Bool.and_eq_true, beq_iff_eq] at hP
      obtain ⟨rfl, hP⟩ := hP
      have h1 := agOk_isAgg hP w
      simp [execOp, ho, ha.eval hx, Instr.field, run_underlying hu, hd, asAgg, part, h1.1, sizeOk_run h1.2, hv]
    · cases hP
  · cases hP
end

def isBool (P : Program) (t : Nat) : Bool :=
  match P.underlying t with
  | some .bool => true
  | _ => false

theorem val_neBool {P : Program} {n : Nat} {σ : Env} {o : Oper} {t t' : Nat} {x y : Operand} (a b r : Bool) (h : isBool P t = true) (ho : o.op = .binOp .neq t x y t') (hx : ev σ x = some (.bool a)) (hy : ev σ y = some (.bool b)) (hr : (!(a == b)) = r) (w : World) : Val P n σ o w (.bool r) := by
  intro ac ha
  subst hr
  unfold isBool at h
  split at h
  · rename_i hu
    have he : (Op.equal t (.bool a) (.bool b)).run P w = .ok (a == b) w := run_equalIn_bool' w 9999 t a b hu
    simp [execOp, ho, ha.eval hx, ha.eval hy, eqGuard, binOp, he]
  · cases h


/-- A pointer that is not nil, held against nil. -/
def isPtr (P : Program) (t : Nat) : Bool :=
  match P.underlying t with
  | some (.pointer _) => true
  | _ => false
theorem val_neNil {P : Program} {n : Nat} {σ : Env} {o : Oper} {t t' : Nat} {x : Operand} {ad : Addr} (h : isPtr P t = true) (ho : o.op = .binOp .neq t x (.const (.pointer none)) t') (hx : ev σ x = some (.pointer (some ad))) (w : World) : Val P n σ o w (.bool true) := by
  intro a ha
  unfold isPtr at h
  split at h
  · rename_i e hu
    have he : ∀ d, (Op.equalIn (d + 1) t (.pointer (some ad)) (.pointer none)).run P w = .ok false w := fun d => by
      simp [Op.equalIn, run_underlying hu]
    have he' : (Op.equal t (.pointer (some ad)) (.pointer none)).run P w = .ok false w := he 9999
    have hc : a.eval (.const (.pointer none)) = .pointer none := rfl
    simp [execOp, ho, ha.eval hx, hc, eqGuard, binOp, he']
  · cases h

/-- Blocks of two types are two. -/
theorem Blk.ne {w : World} {a b : Nat} {L L' : List Value} {e e' : TypeId} (h : Blk w a L e) (h' : Blk w b L' e') (hne : e ≠ e') : a ≠ b := fun hab => by
  subst hab
  unfold Blk at h h'
  rw [h] at h'
  simp at h'
  exact hne h'.2
end E
end Go.Proofs.YtbojicehfbeepadDoor

/- Laws of single operations on strings, and of structs of a string and a number. -/
namespace Go.Proofs.YtbojicehfbeepadDoor
set_option maxRecDepth 20000
set_option maxHeartbeats 4000000
namespace E

section
variable {P : Program} {n : Nat} {σ : Env} {o : Oper}

def isStr (P : Program) (t : Nat) : Bool :=
  match P.underlying t with
  | some .string => true
  | _ => false
theorem isStr_spec {t : Nat} (h : isStr P t = true) : P.underlying t = some .string := by
  unfold isStr at h
  split at h
  · rename_i hu; exact hu
  · cases h

/-- s[i]. -/
theorem val_strAt {t : Nat} {x ix : Operand} {kk : IntKind} (s : ByteArray) (j : Nat) (c : UInt8) {i : Int} (h : isStr P t = true) (ho : o.op = .index t x ix) (hx : ev σ x = some (.string s)) (hi : ev σ ix = some (.int kk i))
    (hij : i = (j : Int)) (hc : s[j]? = some c) (w : World) : Val P n σ o w (.int .u8 (c.toNat : Nat)) := by
  intro a ha
  subst hij
  simp [execOp, ho, ha.eval hx, ha.eval hi, Instr.index, asIntOf, run_underlying (isStr_spec h), hc]

/-- len(s). -/
theorem val_strLen {t : Nat} {x : Operand} (s : ByteArray) (h : isStr P t = true) (ho : o.op = .call { callee := .builtin .len, args := #[x], argTypes := #[t] }) (hx : ev σ x = some (.string s)) (w : World) : Val P n σ o w (.int .i64 (s.size : Nat)) := by
  intro a ha
  simp [execOp, ho, resolve, invoke, builtin, Builtin.len_, run_underlying (isStr_spec h), ha.eval hx, goInt]

theorem val_eqStr {t t' : Nat} {x y : Operand} (a b : ByteArray) (r : Bool) (ho : o.op = .binOp .eql t x y t') (hx : ev σ x = some (.string a)) (hy : ev σ y = some (.string b)) (hr : (a.toList == b.toList) = r) (w : World) : Val P n σ o w (.bool r) := by
  intro ac ha
  subst hr
  simp [execOp, ho, ha.eval hx, ha.eval hy, eqGuard, binOp, Op.stringOp]
theorem val_neStr {t t' : Nat} {x y : Operand} (a b : ByteArray) (r : Bool) (ho : o.op = .binOp .neq t x y t') (hx : ev σ x = some (.string a)) (hy : ev σ y = some (.string b)) (hr : (!(a.toList == b.toList)) = r) (w : World) : Val P n σ o w (.bool r) := by
  intro ac ha
  subst hr
  simp [execOp, ho, ha.eval hx, ha.eval hy, eqGuard, binOp, Op.stringOp]

/-- A struct of a string and a number. -/
def isPair (P : Program) (t : Nat) : Bool :=
  match P.underlying t with
  | some (.struct fs) => match fs.toList with
    | [f, g] => f.offset == 0 && g.offset == 1 && (f.name != "_") && (g.name != "_") && isStr P f.type && (match P.underlying g.type with | some (.int _) => true | _ => false) && !(P.stoodInHeld t) && !(P.eqGuardType P.depth t)
    | _ => false
  | _ => false

theorem run_equal_pair {t : Nat} (h : isPair P t = true) (a b : ByteArray) (x y : Int) (w : World) :
    (Op.equalIn 10000 t (.agg #[.string a, .int .i64 x]) (.agg #[.string b, .int .i64 y])).run P w = .ok (a.toList == b.toList && x == y) w ∧ P.eqGuardType P.depth t = false := by
  unfold isPair at h
  split at h
  · rename_i fs hu
    split at h
    · rename_i f g hfs
      simp only [Bool.and_eq_true, beq_iff_eq, bne_iff_ne, Bool.not_eq_true'] at h
      obtain ⟨⟨⟨⟨⟨⟨⟨h1, h2⟩, h3⟩, h4⟩, h5⟩, h6⟩, h7⟩, h8⟩ := h
      refine ⟨?_, h8⟩
      have hf : P.fieldsOf t = fs := by simp [Program.fieldsOf, hu]
      have hs := isStr_spec h5
      split at h6
      · rename_i k hk
        rw [run_equalIn_struct w 9999 t _ _ (by rw [hf]; exact hu) h7, hf, hfs]
        have e1 := run_equalIn_string (P := P) w 9998 f.type a b hs
        have e2 := run_equalIn_int (P := P) w 9998 g.type .i64 k x y hk
        have p1 : (part f.type #[.string a, .int .i64 x] 0).run P w = .ok (.string a) w := by simp [part, isAgg, run_underlying hs]
        have p2 : (part f.type #[.string b, .int .i64 y] 0).run P w = .ok (.string b) w := by simp [part, isAgg, run_underlying hs]
        have p3 : (part g.type #[.string a, .int .i64 x] 1).run P w = .ok (.int .i64 x) w := by simp [part, isAgg, run_underlying hk]
        have p4 : (part g.type #[.string b, .int .i64 y] 1).run P w = .ok (.int .i64 y) w := by simp [part, isAgg, run_underlying hk]
        simp only [Op.eqFields, h1, h2, h3, h4, ne_eq, not_false_eq_true, if_true, Sem.run_bind, p1, p2, Result.andThen_ok, e1]
        generalize (a.toList == b.toList) = p at *
        generalize (x == y) = q at *
        have e2' : (Op.equalIn 9999 g.type (.int .i64 x) (.int .i64 y)).run P w = .ok q w := e2
        cases p <;> cases q <;> simp [p3, p4, e2']
      · cases h6
    · cases h
  · cases h
theorem val_nePair {t t' : Nat} {x y : Operand} (a b : ByteArray) (k l : Int) (r : Bool) (h : isPair P t = true) (ho : o.op = .binOp .neq t x y t') (hx : ev σ x = some (.agg #[.string a, .int .i64 k])) (hy : ev σ y = some (.agg #[.string b, .int .i64 l]))
    (hr : (!(a.toList == b.toList && k == l)) = r) (w : World) : Val P n σ o w (.bool r) := by
  intro ac ha
  subst hr
  obtain ⟨h1, h2⟩ := run_equal_pair h a b k l w
  simp only [execOp, ho, ha.eval hx, ha.eval hy, Sem.run_bind, run_eqGuard_agg w .neq t _ _ _ _ h2, Result.andThen_ok, run_neq_struct, h1]
  simp
theorem val_eqPair {t t' : Nat} {x y : Operand} (a b : ByteArray) (k l : Int) (r : Bool) (h : isPair P t = true) (ho : o.op = .binOp .eql t x y t') (hx : ev σ x = some (.agg #[.string a, .int .i64 k])) (hy : ev σ y = some (.agg #[.string b, .int .i64 l]))
    (hr : (a.toList == b.toList && k == l) = r) (w : World) : Val P n σ o w (.bool r) := by
  intro ac ha
  subst hr
  obtain ⟨h1, h2⟩ := run_equal_pair h a b k l w
  simp only [execOp, ho, ha.eval hx, ha.eval hy, Sem.run_bind, run_eqGuard_agg w .eql t _ _ _ _ h2, Result.andThen_ok, run_eql_struct, h1]
  simp
end
end E
end Go.Proofs.YtbojicehfbeepadDoor

/- Slices that a call owns: over a row that may be longer than the slice's capacity; append to them; cutting them to their beginning. -/
namespace Go.Proofs.YtbojicehfbeepadDoor
set_option maxRecDepth 20000
set_option maxHeartbeats 4000000
namespace E

/-- v is a slice of n elements, the cells xs, over a row from its head on, of blocks from B on (or nil). -/
def Own (w : World) (B e size : Nat) (v : Value) (n : Nat) (xs : List Value) : Prop :=
  xs.length = n * size ∧ ((v = .slice none 0 0 ∧ n = 0) ∨
    ∃ g cap cur, v = .slice (some ⟨g, 0, none⟩) n cap ∧ B ≤ g ∧ Blk w g cur e ∧ n ≤ cap ∧ cap * size ≤ cur.length ∧ cur.take (n * size) = xs)

def capOf : Value → Nat
  | .slice _ _ c => c
  | _ => 0

section
variable {w w' : World} {B e size n : Nat} {v : Value} {xs : List Value}

theorem Own.nil (w : World) (B e size : Nat) : Own w B e size (.slice none 0 0) 0 [] := ⟨by simp, .inl ⟨rfl, rfl⟩⟩
theorem Own.lt (h : Own w B e size v n xs) : ∀ k, v.ownBlock = some k → B ≤ k ∧ k < w.heap.size := by
  intro k hk
  rcases h.2 with ⟨rfl, _⟩ | ⟨g, cap, cur, rfl, hb, hg, _⟩
  · simp [Value.ownBlock] at hk
  · simp [Value.ownBlock] at hk
    subst hk
    exact ⟨hb, hg.lt⟩
theorem Own.keep {fp : List Nat} (h : Own w B e size v n xs) (hk : Keep fp w w') (hn : ∀ k, v.ownBlock = some k → k ∉ fp) : Own w' B e size v n xs := by
  refine ⟨h.1, ?_⟩
  rcases h.2 with h0 | ⟨g, cap, cur, rfl, hb, hg, r⟩
  · exact .inl h0
  · exact .inr ⟨g, cap, cur, rfl, hb, hk.blk hg (hn g rfl), r⟩
theorem Own.form (h : Own w B e size v n xs) : ∃ a cap, v = .slice a n cap := by
  rcases h.2 with ⟨h1, h2⟩ | ⟨g, cap, cur, h1, _⟩
  · exact ⟨none, 0, by rw [h1, h2]⟩
  · exact ⟨_, cap, h1⟩
theorem Own.range (h : Own w B e size v n xs) {q : Nat} {cs : List Value} (hc : (xs.drop q).take cs.length = cs) (h0 : 0 < n) : ∃ g cap, v = .slice (some ⟨g, 0, none⟩) n cap ∧ w.rangeAt g q cs := by
  rcases h.2 with ⟨_, h2⟩ | ⟨g, cap, cur, h1, _, hb, _, _, ht⟩
  · omega
  · refine ⟨g, cap, h1, fun j u hu => hb.cell ?_⟩
    rw [← hc, List.getElem?_take] at hu
    split at hu
    · rw [List.getElem?_drop, ← ht, List.getElem?_take] at hu
      split at hu
      · exact hu
      · cases hu
    · cases hu
/-- Its beginning, with no room behind it. -/
theorem Own.cut (h : Own w B e size v n xs) {m : Nat} (hm : m ≤ n) {a : Option Addr} {cap : Nat} (hv : v = .slice a n cap) : Own w B e size (.slice a m m) m (xs.take (m * size)) := by
  refine ⟨?_, ?_⟩
  · rw [List.length_take, h.1, Nat.min_eq_left (Nat.mul_le_mul_right _ hm)]
  · rcases h.2 with ⟨h1, h2⟩ | ⟨g, c, cur, h1, hb, hg, hc, hl, ht⟩
    · rw [h1] at hv
      injection hv with e1 e2 e3
      subst e1
      have : m = 0 := by omega
      subst this
      exact .inl ⟨rfl, rfl⟩
    · rw [h1] at hv
      injection hv with e1 e2 e3
      subst e1
      refine .inr ⟨g, m, cur, rfl, hb, hg, Nat.le_refl _, Nat.le_trans (Nat.mul_le_mul_right _ (Nat.le_trans hm hc)) hl, ?_⟩
      rw [← ht, List.take_take, Nat.min_eq_left (Nat.mul_le_mul_right _ hm)]
theorem Own.cap_le (h : Own w B e size v n xs) : n ≤ capOf v := by
  rcases h.2 with ⟨_, h2⟩ | ⟨g, cap, cur, h1, _, _, hc, _⟩
  · omega
  · rw [h1]; exact hc

theorem keep_grown {w w' : World} {row : Option Nat} (hg : w.grownBy w' row) : Keep row.toList w w' := (Keep.refl _ _).grown hg fun k e => .inl (by simp [e])
end

theorem opTo_app {P : Program} {n : Nat} {σ : Env} {o : Oper} {w : World} {v : Value} {t : TypeId} {s x : Operand} {b q m c ln : Nat} {K : Value → World → Prop} (B e size bytes : Nat) (xs news : List Value)
    (ho : o.op = .call { callee := .builtin .append, args := #[s, x], argTypes := #[t, t] }) (hs : ev σ s = some v) (hx : ev σ x = some (.slice (some ⟨b, q, none⟩) m c))
    (hP : appOk P t e size bytes = true) (hown : Own w B e size v ln xs) (hnews : w.rangeAt b q news) (hl : news.length = m * size) (h1 : ∀ u ∈ news, u.oneCell' = true)
    (hm : 0 < m) (h63 : ln + m ≤ maxLen) (hbytes : (ln + m) * bytes ≤ 140737488355328) (hbase : B ≤ w.heap.size)
    (hK : ∀ g cap w', Own w' B e size (.slice (some ⟨g, 0, none⟩) (ln + m) cap) (ln + m) (xs ++ news) → ((v.ownBlock = some g ∧ ln + m ≤ capOf v ∧ Keep [g] w w') ∨ (g = w.heap.size ∧ Keep [] w w' ∧ w'.heap.size = w.heap.size + 1)) → K (.slice (some ⟨g, 0, none⟩) (ln + m) cap) w') : OpTo P n σ o w K := by
  obtain ⟨i, z, hu, hi, hz, hsize, hby, hzs⟩ := appOk_run hP
  subst hsize
  subst hby
  have hlen : (xs ++ news).length = (ln + m) * i.size := by rw [List.length_append, hown.1, hl, Nat.add_mul]
  have hnews' : ∀ j u, news[j]? = some u → w.cell? ((⟨b, q, none⟩ : Addr).add j) = some u := fun j u hj => by rw [Addr.add_mid]; exact hnews j u hj
  have h63' : ((ln + m : Nat) : Int) ≤ 9223372036854775807 := by simp only [maxLen] at h63; omega
  have key : ∀ v' w', (Builtin.append_ #[t, t] o.type #[v, .slice (some ⟨b, q, none⟩) m c]).run P w = .ok v' w' → K v' w' → OpTo P n σ o w K := fun v' w' hr hk =>
    opTo_run (w' := w') (v := v') (fun a ha => by simp [execOp, ho, resolve, invoke, builtin, ha.eval hs, ha.eval hx, hr]) hk
  have hnew : ∀ (old : Nat) (cur : Array Value), cur = xs.toArray ++ news.toArray ++ Builtin.zeroCells z.cells (grownCap w (ln + m) old e - (ln + m)) →
      Own (w.drew.alloc (.cells cur e)) B e i.size (.slice (some ⟨w.heap.size, 0, none⟩) (ln + m) (grownCap w (ln + m) old e)) (ln + m) (xs ++ news) ∧ Keep [] w (w.drew.alloc (.cells cur e)) := fun old cur hcur => by
    have hge := grownCap_ge w (ln + m) old e
    refine ⟨⟨hlen, .inr ⟨w.heap.size, _, cur.toList, rfl, hbase, ?_, hge, ?_, ?_⟩⟩, ((Keep.refl _ _).drew).alloc _⟩
    · have := Blk.new w.drew cur.toList e
      rwa [Array.toArray_toList] at this
    · rw [hcur]
      simp only [Array.toList_append, List.length_append, Array.length_toList, size_zeroCells, hzs, hown.1, hl, ← Nat.add_mul]
      rw [Nat.add_sub_cancel' hge]
      exact Nat.le_refl _
    · rw [hcur]
      simp only [Array.toList_append]
      rw [← hlen]
      exact List.take_left
  rcases hown.2 with ⟨rfl, rfl⟩ | ⟨g, cap, cur, rfl, hbg, hg, hnc, hcs, htake⟩
  · have hxs : xs = [] := List.eq_nil_of_length_eq_zero (by simpa using hown.1)
    subst hxs
    have hr := run_append_nil (P := P) w t o.type e i z hu hi hz ⟨b, q, none⟩ m c news hl hnews' hm (by omega) (by simp only [Nat.zero_add] at hbytes; omega)
    have hn := hnew 0 (news.toArray ++ Builtin.zeroCells z.cells (grownCap w m 0 e - m)) (by simp)
    simp only [Nat.zero_add] at hn hK
    exact key _ _ hr (hK _ _ _ hn.1 (.inr ⟨rfl, hn.2, World.size_alloc _ _⟩))
  · by_cases hroom : ln + m ≤ cap
    · have hfit : ln * i.size + news.length ≤ cur.toArray.size := by
        rw [hl, ← Nat.add_mul, List.size_toArray]
        exact Nat.le_trans (Nat.mul_le_mul_right _ hroom) hcs
      have hr := run_append_room (P := P) w t o.type e i hu hi g ln cap cur.toArray hg ⟨b, q, none⟩ m c news hl hnews' h1 hroom hfit
      refine key _ _ hr (hK _ _ _ ⟨hlen, .inr ⟨g, cap, _, rfl, hbg, hg.set _, hroom, ?_, ?_⟩⟩ (.inl ⟨rfl, hroom, (Keep.refl _ _).setRow _ _ (.inl (by simp))⟩))
      · simp only [List.size_toArray] at hfit
        simp only [List.length_append, List.length_take, List.length_drop]
        omega
      · rw [← hlen, htake]
        exact List.take_left
    · have holds : ∀ j u, xs[j]? = some u → w.cell? ((⟨g, 0, none⟩ : Addr).add j) = some u := fun j u hj => by
        rw [Addr.add_mid, Nat.zero_add]
        refine hg.cell ?_
        rw [← htake, List.getElem?_take] at hj
        split at hj
        · exact hj
        · cases hj
      have hr := run_append_grow (P := P) w t o.type e i z hu hi hz ⟨g, 0, none⟩ ln cap xs hown.1 holds ⟨b, q, none⟩ m c news hl hnews' (by omega) h63' (growslice_fits (by omega) hbytes)
      have hn := hnew cap _ rfl
      exact key _ _ hr (hK _ _ _ hn.1 (.inr ⟨rfl, hn.2, World.size_alloc _ _⟩))

section
variable {P : Program} {T : Tbl} {n : Nat} {σ : Env} {o : Oper}
/-- s[:h:m]. -/
theorem val_slice3 {t : TypeId} {x hi mx : Operand} {a : Option Addr} {len cap sz : Nat} {k1 k2 : IntKind} {i1 i2 : Int} (h m : Nat) (hT : T.check P = true) (ho : o.op = .slice t x none (some hi) (some mx)) (hx : ev σ x = some (.slice a len cap))
    (h1 : ev σ hi = some (.int k1 i1)) (h2 : ev σ mx = some (.int k2 i2)) (ht : find T.sl t = some sz) (e1 : i1 = (h : Int)) (e2 : i2 = (m : Int)) (hm : m ≤ cap) (hh : h ≤ m) (w : World) : Val P n σ o w (.slice a h m) := by
  intro ac ha
  subst e1
  subst e2
  have hs := Tbl.sl_ok hT ht
  unfold slOk at hs
  split at hs
  · rename_i e hu
    simp [execOp, ho, ha.eval hx, ha.eval h1, ha.eval h2, Instr.sliceAt, Instr.slice, Instr.sliceBounds, Instr.sliceBound, asIntOf, run_underlying hu, sizeOk_run hs, hm, hh]
    cases a <;> simp [Addr.add]
  · cases hs
end
end E
end Go.Proofs.YtbojicehfbeepadDoor

/- More laws of single operations: a quotient, a pointer that is held against nil, one of a row of bools, a slice that is made. -/
namespace Go.Proofs.YtbojicehfbeepadDoor
set_option maxRecDepth 20000
set_option maxHeartbeats 4000000
namespace E

section
variable {P : Program} {T : Tbl} {n : Nat} {σ : Env} {o : Oper} {w : World}

theorem val_quo {t t' : TypeId} {x y : Operand} (k : IntKind) (a b r : Int) (ho : o.op = .binOp .quo t x y t') (hx : ev σ x = some (.int k a)) (hy : ev σ y = some (.int k b)) (hb : b ≠ 0)
    (hr : k.wrap (a.tdiv b) = r) (w : World) : Val P n σ o w (.int k r) := by
  intro ac ha
  subst hr
  simp [execOp, ho, ha.eval hx, ha.eval hy, eqGuard, binOp, Op.intDiv, hb]

theorem quo8 (k : Nat) (h : k < 1000000) : IntKind.i64.wrap (((k : Nat) : Int).tdiv 8) = ((k / 8 : Nat) : Int) := by
  have e : ((k : Nat) : Int).tdiv 8 = ((k / 8 : Nat) : Int) := by
    rw [Int.tdiv_eq_ediv_of_nonneg (by omega)]
    omega
  rw [e, wrap_i64 (by omega) (by omega)]

theorem val_eqNil {t t' : Nat} {x : Operand} {ad : Addr} (h : isPtr P t = true) (ho : o.op = .binOp .eql t x (.const (.pointer none)) t') (hx : ev σ x = some (.pointer (some ad))) (w : World) : Val P n σ o w (.bool false) := by
  intro a ha
  unfold isPtr at h
  split at h
  · rename_i e hu
    have he : ∀ d, (Op.equalIn (d + 1) t (.pointer (some ad)) (.pointer none)).run P w = .ok false w := fun d => by
      simp [Op.equalIn, run_underlying hu]
    have he' : (Op.equal t (.pointer (some ad)) (.pointer none)).run P w = .ok false w := he 9999
    have hc : a.eval (.const (.pointer none)) = .pointer none := rfl
    simp [execOp, ho, ha.eval hx, hc, eqGuard, binOp, he']
  · cases h

def arrBool (P : Program) (t len : Nat) : Bool :=
  match P.underlying t with
  | some (.array l e) => l == len && (match P.underlying e with | some .bool => true | _ => false) && sizeOk P e 1
  | _ => false

/-- One out of a row of bools that is a value. -/
theorem val_atB {t len : Nat} {x ix : Operand} {kk : IntKind} (cs : List Value) (v : Value) (j : Nat) {i : Int} (h : arrBool P t len = true) (ho : o.op = .index t x ix) (hx : ev σ x = some (.agg cs.toArray)) (hi : ev σ ix = some (.int kk i))
    (hij : i = (j : Int)) (hj : j < len) (hc : cs[j]? = some v) (w : World) : Val P n σ o w v := by
  intro a ha
  subst hij
  unfold arrBool at h
  split at h
  · rename_i l e hu
    simp only [Bool.and_eq_true, beq_iff_eq] at h
    obtain ⟨⟨rfl, h1⟩, h2⟩ := h
    split at h1
    · rename_i hk
      have hg : cs.toArray[j]? = some v := by simpa using hc
      simp [execOp, ho, ha.eval hx, ha.eval hi, Instr.index, asIntOf, run_underlying hu, hj, sizeOk_run h2, part, isAgg, run_underlying hk]
      simp [hc]
    · cases h1
  · cases h

theorem opTo_make {t e : TypeId} {l c : Operand} {k1 k2 : IntKind} {K : Value → World → Prop} (len : Nat) (cells : List Value) (i : TypeInfo) (z : Value) (ho : o.op = .makeSlice t l c) (hl : ev σ l = some (.int k1 (len : Nat))) (hc : ev σ c = some (.int k2 (len : Nat)))
    (ht : P.underlying t = some (.slice e)) (hi : P.info? e = some i) (hz : i.zero = some z) (hb : (i.bytes : Int) * ((len : Nat) : Int) ≤ 281474976710656) (h63 : ((len : Nat) : Int) ≤ 9223372036854775807)
    (hcells : madeCells z.cells (len * i.size) = cells.toArray) (hK : K (.slice (some ⟨w.heap.size, 0, none⟩) len len) (w.alloc (.cells cells.toArray e))) : OpTo P n σ o w K := by
  refine opTo_run (w' := w.alloc (.cells cells.toArray e)) (v := .slice (some ⟨w.heap.size, 0, none⟩) len len) (fun a ha => ?_) hK
  have hr := run_make (P := P) w t e i z ht hi hz k1 k2 ((len : Nat) : Int) ((len : Nat) : Int) (by omega) (Int.le_refl _) hb h63
  simp only [Int.toNat_natCast] at hr
  rw [hcells] at hr
  simp [execOp, ho, ha.eval hl, ha.eval hc, hr]
end
end E
end Go.Proofs.YtbojicehfbeepadDoor
