/- The laws of single operations for the engine: what an operation makes of its slots and of the world. -/
import Derived.Test.YthidfgolcibcoacDoorEng
import Derived.Laws.Tables
import Derived.Laws.Entries
namespace Go.Proofs.YthidfgolcibcoacDoor
set_option maxRecDepth 20000
set_option maxHeartbeats 4000000
namespace E

def find {β : Type} : List (Nat × β) → Nat → Option β
  | [], _ => none
  | (s, v) :: r, t => match Nat.beq s t with
    | true => some v
    | false => find r t

theorem find_mem {β : Type} : ∀ {l : List (Nat × β)} {t : Nat} {x : β}, find l t = some x → (t, x) ∈ l
  | [], _, _, h => by simp [find] at h
  | (s, y) :: r, t, x, h => by
    unfold find at h
    cases hb : Nat.beq s t with
    | true =>
      have hb' := Nat.eq_of_beq_eq_true hb
      subst hb'
      simp at h
      subst h
      simp
    | false =>
      simp only [hb] at h
      exact List.mem_cons_of_mem _ (find_mem h)

/-- What a proof needs to know of a program's types: the fields' places, the slices' and arrays' elements, how many cells. -/
structure Tbl where
  fld : List (Nat × List (Nat × Nat))
  sl : List (Nat × Nat)
  ar : List (Nat × (Nat × Nat))
  one : List (Nat × Unit)
  ag : List (Nat × Nat)

def fldOk (P : Program) (s f off : Nat) : Bool :=
  match P.underlying s with
  | some (.struct fs) => match fs[f]? with
    | some d => d.offset == off && (match P.info? d.type with | some i => i.size != 0 | none => false)
    | none => false
  | _ => false
def sizeOk (P : Program) (t n : Nat) : Bool :=
  match P.info? t with
  | some i => i.size == n
  | none => false
def slOk (P : Program) (t n : Nat) : Bool :=
  match P.underlying t with
  | some (.slice e) => sizeOk P e n
  | _ => false
def arOk (P : Program) (t len n : Nat) : Bool :=
  match P.underlying t with
  | some (.array l e) => l == len && sizeOk P e n
  | _ => false
def oneOk (P : Program) (t : Nat) : Bool :=
  match P.underlying t with
  | some (.struct _) | some (.array _ _) | none => false
  | some _ => sizeOk P t 1
def agOk (P : Program) (t n : Nat) : Bool :=
  match P.underlying t with
  | some (.struct _) | some (.array _ _) => sizeOk P t n
  | _ => false
def Tbl.check (T : Tbl) (P : Program) : Bool :=
  (T.fld.all fun p => p.2.all fun q => fldOk P p.1 q.1 q.2) && (T.sl.all fun p => slOk P p.1 p.2) && (T.ar.all fun p => arOk P p.1 p.2.1 p.2.2) && (T.one.all fun p => oneOk P p.1) && (T.ag.all fun p => agOk P p.1 p.2)

def Tbl.fldAt (T : Tbl) (s f : Nat) : Option Nat :=
  match find T.fld s with
  | some l => find l f
  | none => none

section
variable {P : Program} {T : Tbl} {n : Nat} {σ : Env} {o : Oper} {w : World} {v : Value}

theorem Tbl.fld_ok (hT : T.check P = true) {s f off : Nat} (h : T.fldAt s f = some off) : fldOk P s f off = true := by
  simp only [Tbl.check, Bool.and_eq_true] at hT
  unfold Tbl.fldAt at h
  cases hs : find T.fld s with
  | none => simp [hs] at h
  | some l =>
    simp only [hs] at h
    exact List.all_eq_true.1 (List.all_eq_true.1 hT.1.1.1.1 _ (find_mem hs)) _ (find_mem h)
theorem Tbl.sl_ok (hT : T.check P = true) {t m : Nat} (h : find T.sl t = some m) : slOk P t m = true := by
  simp only [Tbl.check, Bool.and_eq_true] at hT
  exact List.all_eq_true.1 hT.1.1.1.2 _ (find_mem h)
theorem Tbl.ar_ok (hT : T.check P = true) {t : Nat} {m : Nat × Nat} (h : find T.ar t = some m) : arOk P t m.1 m.2 = true := by
  simp only [Tbl.check, Bool.and_eq_true] at hT
  exact List.all_eq_true.1 hT.1.1.2 _ (find_mem h)
theorem Tbl.one_ok (hT : T.check P = true) {t : Nat} (h : find T.one t = some ()) : oneOk P t = true := by
  simp only [Tbl.check, Bool.and_eq_true] at hT
  exact List.all_eq_true.1 hT.1.2 _ (find_mem h)
theorem Tbl.ag_ok (hT : T.check P = true) {t m : Nat} (h : find T.ag t = some m) : agOk P t m = true := by
  simp only [Tbl.check, Bool.and_eq_true] at hT
  exact List.all_eq_true.1 hT.2 _ (find_mem h)

theorem sizeOk_run {t m : Nat} (h : sizeOk P t m = true) (w : World) : (sizeOf t).run P w = .ok m w := by
  unfold sizeOk at h
  cases hi : P.info? t with
  | none => simp [hi] at h
  | some i =>
    simp only [hi, beq_iff_eq] at h
    simp [sizeOf, typeInfo, hi, h]
theorem sizeOk_info {t m : Nat} (h : sizeOk P t m = true) : (P.info? t).map (·.size) = some m := by
  unfold sizeOk at h
  cases hi : P.info? t with
  | none => simp [hi] at h
  | some i => simpa [hi] using h

theorem fldOk_run {s f off b q : Nat} (h : fldOk P s f off = true) (w : World) : (Instr.fieldAt s (.pointer (some ⟨b, q, none⟩)) f).run P w = .ok (.pointer (some ⟨b, q + off, none⟩)) w := by
  unfold fldOk at h
  split at h
  · rename_i fs hu
    split at h
    · rename_i d hd
      simp only [Bool.and_eq_true, beq_iff_eq] at h
      obtain ⟨rfl, h2⟩ := h
      split at h2
      · rename_i i hi
        have hne : i.size ≠ 0 := by simpa using h2
        have hsz : (sizeOf d.type).run P w = .ok i.size w := by simp [sizeOf, typeInfo, hi]
        simp [Instr.fieldAt, run_underlying hu, hd, Instr.sureAddr, fieldPlace, hsz, hne, Addr.add_mid]
      · cases h2
    · cases h
  · cases h

/-- Operations that look at slots alone. -/
def pureOp (T : Tbl) (σ : Env) : Op → Option Value
  | .move x => ev σ x
  | .assign x => ev σ x
  | .pick c a b => match ev σ c with
    | some (.bool true) => ev σ a
    | some (.bool false) => ev σ b
    | _ => none
  | .nilCheck x => match ev σ x with
    | some (.pointer (some a)) => some (.pointer (some a))
    | _ => none
  | .fieldAddr s x f => match ev σ x with
    | some (.pointer (some ⟨b, q, none⟩)) => match T.fldAt s f with
      | some off => some (.pointer (some ⟨b, q + off, none⟩))
      | none => none
    | _ => none
  | .extract x i => match ev σ x with
    | some (.tuple vs) => vs[i]?
    | _ => none
  | .makeFunc fn first captured => match evs σ first.toList with
    | none => none
    | some xs => match evs σ captured.toList with
      | none => none
      | some ys => some (.func fn xs.toArray ys.toArray)
  | .unOp .not _ x => match ev σ x with
    | some (.bool b) => some (.bool !b)
    | _ => none
  | .call c => match c.callee, c.args.toList, c.argTypes.toList with
    | .builtin .len, [x], [t] => match find T.sl t with
      | none => none
      | some _ => match ev σ x with
        | some (.slice _ m _) => some (.int .i64 m)
        | _ => none
    | _, _, _ => none
  | _ => none

theorem map_eq_toArray {α β : Type} {xs : Array α} {g : α → β} {ys : List β} (h : xs.toList.map g = ys) : xs.map g = ys.toArray := by
  apply Array.ext'
  simpa using h

theorem val_pure (hT : T.check P = true) (h : pureOp T σ o.op = some v) (w : World) : Val P n σ o w v := by
  intro a ha
  unfold pureOp at h
  split at h
  · rename_i x ho; simp [execOp, ho, ha.eval h]
  · rename_i x ho; simp [execOp, ho, ha.eval h]
  · rename_i c x y ho
    split at h
    · rename_i hc; simp [execOp, ho, ha.eval hc, asBool, ha.eval h]
    · rename_i hc; simp [execOp, ho, ha.eval hc, asBool, ha.eval h]
    · cases h
  · rename_i x ho
    split at h
    · rename_i ad hx; cases h; simp [execOp, ho, ha.eval hx]
    · cases h
  · rename_i s x f ho
    split at h
    · rename_i b q hx
      split at h
      · rename_i off hf
        cases h
        simp [execOp, ho, ha.eval hx, fldOk_run (Tbl.fld_ok hT hf)]
      · cases h
    · cases h
  · rename_i x i ho
    split at h
    · rename_i vs hx
      simp [execOp, ho, ha.eval hx, Instr.extract, h]
    · cases h
  · rename_i fn first captured ho
    split at h
    · cases h
    · rename_i xs hxs
      split at h
      · cases h
      · rename_i ys hys
        cases h
        simp only [execOp, ho]
        rw [map_eq_toArray (ha.evals hxs), map_eq_toArray (ha.evals hys)]
        simp [Instr.makeFunc]
  · rename_i t x ho
    split at h
    · rename_i b hx
      cases h
      simp [execOp, ho, ha.eval hx, Op.unary]
    · cases h
  · rename_i c ho
    split at h
    · rename_i x t hcal hargs htys
      split at h
      · cases h
      · rename_i m hm
        split at h
        · rename_i ad len cap hx
          cases h
          have hs := Tbl.sl_ok hT hm
          unfold slOk at hs
          split at hs
          · rename_i e hu
            have e1 : c.args = #[x] := Array.ext' hargs
            have e2 : c.argTypes = #[t] := Array.ext' htys
            simp [execOp, ho, resolve, hcal, e1, e2, invoke, builtin, Builtin.len_, run_underlying hu, ha.eval hx, goInt]
          · cases hs
        · cases h
    · cases h
  · cases h

section
variable {f : Nat} {ops : Array Oper} {k : List Item} {R : Value → World → Prop}
theorem pl_pure {l : List Oper} (hT : T.check P = true) (hg : guardOf ops σ o.guard = some true) (hv : pureOp T σ o.op = some v) (hd : dstOk n o.dst = true)
    (h : Pl P f n ops k R l (put σ o.dst v) w) : Pl P f n ops k R (o :: l) σ w := pl_val v hg hd (val_pure hT hv w) h
theorem dr_pure {S : World → Prop} {T' : List Nat} {fuel m : Nat} (i : Nat) (hT : T.check P = true) (ho : ops[i]? = some o) (hk : takeOk ops m i = true) (hg : guardOf ops σ o.guard = some true)
    (hv : pureOp T σ o.op = some v) (hd : dstOk n o.dst = true) (h : Dr P f n ops k R S T' fuel (m ||| 2 ^ i) (put σ o.dst v) w) : Dr P f n ops k R S T' (fuel + 1) m σ w :=
  dr_any i v ho hk hg hd (fun w => val_pure hT hv w) h
end

/-! ### Integers -/
def intOp (op : BinOp) (k : IntKind) (a b : Int) : Option Value :=
  match op with
  | .add => some (.int k (k.wrap (a + b)))
  | .sub => some (.int k (k.wrap (a - b)))
  | .mul => some (.int k (k.wrap (a * b)))
  | .rem => if b = 0 then none else some (.int k (a.tmod b))
  | .and => some (.int k (k.wrap (BitVec.ofInt k.bits a &&& BitVec.ofInt k.bits b).toNat))
  | .eql => some (.bool (a == b))
  | .neq => some (.bool (a != b))
  | .lss => some (.bool (a < b))
  | .leq => some (.bool (a ≤ b))
  | .gtr => some (.bool (a > b))
  | .geq => some (.bool (a ≥ b))
  | _ => none

theorem val_int {op : BinOp} {t t' : TypeId} {x y : Operand} (k : IntKind) (a b : Int) (r : Value) (ho : o.op = .binOp op t x y t') (hx : ev σ x = some (.int k a)) (hy : ev σ y = some (.int k b))
    (hr : intOp op k a b = some r) (w : World) : Val P n σ o w r := by
  intro ac ha
  cases op <;> simp only [intOp] at hr <;> first
    | (cases hr; done)
    | (cases hr; simp [execOp, ho, ha.eval hx, ha.eval hy, eqGuard, binOp, Op.intArith, Op.intCmp, Op.intBits]; done)
    | (split at hr
       · cases hr
       · rename_i hb
         cases hr
         simp [execOp, ho, ha.eval hx, ha.eval hy, eqGuard, binOp, Op.intDiv, hb])

theorem wrap_i64 {x : Int} (h1 : -9223372036854775808 ≤ x) (h2 : x < 9223372036854775808) : IntKind.i64.wrap x = x := by
  have e : IntKind.i64.wrap x = if x % 18446744073709551616 ≥ 9223372036854775808 then x % 18446744073709551616 - 18446744073709551616 else x % 18446744073709551616 := by
    simp [IntKind.wrap, IntKind.bits, IntKind.signed]
  rw [e]
  split <;> omega
theorem wrap_u64 {x : Int} (h1 : 0 ≤ x) (h2 : x < 18446744073709551616) : IntKind.u64.wrap x = x := by
  have e : IntKind.u64.wrap x = x % 18446744073709551616 := by
    simp [IntKind.wrap, IntKind.bits, IntKind.signed]
  rw [e]
  omega

theorem val_shr {t t' : TypeId} {x y : Operand} (k k' : IntKind) (a b : Int) (r : Int) (ho : o.op = .binOp .shr t x y t') (hx : ev σ x = some (.int k a)) (hy : ev σ y = some (.int k' b))
    (hb : 0 ≤ b) (hr : a.fdiv (2 ^ min b.toNat k.bits) = r) (w : World) : Val P n σ o w (.int k r) := by
  intro ac ha
  subst hr
  have : ¬ b < 0 := by omega
  simp [execOp, ho, ha.eval hx, ha.eval hy, eqGuard, binOp, Op.shift, this]

def convOk (P : Program) (src dst : Nat) (k : IntKind) : Bool :=
  match P.underlying src, P.underlying dst with
  | some _, some (.int k') => decide (k' = k)
  | _, _ => false

theorem val_conv {src dst : TypeId} {x : Operand} (k k' : IntKind) (a r : Int) (ho : o.op = .convert src dst x) (hx : ev σ x = some (.int k a)) (hc : convOk P src dst k' = true) (hr : k'.wrap a = r) (w : World) : Val P n σ o w (.int k' r) := by
  intro ac ha
  subst hr
  unfold convOk at hc
  split at hc
  · rename_i d k2 h1 h2
    have hk : k2 = k' := by simpa using hc
    subst hk
    cases d <;> simp [execOp, ho, ha.eval hx, convert, run_underlying h1, run_underlying h2, Conv.intToInt]
  · cases hc

/-! ### Memory -/
/-- A block that is known whole. -/
def Blk (w : World) (b : Nat) (L : List Value) (e : TypeId) : Prop := w.heap[b]? = some (.cells L.toArray e (0, 0))

theorem Blk.lt {b : Nat} {L : List Value} {e : TypeId} (h : Blk w b L e) : b < w.heap.size := (Array.getElem?_eq_some_iff.1 h).1
theorem Blk.drew {b : Nat} {L : List Value} {e : TypeId} (h : Blk w b L e) : Blk w.drew b L e := h
theorem Blk.alloc {b : Nat} {L : List Value} {e : TypeId} (h : Blk w b L e) (ob : Obj) : Blk (w.alloc ob) b L e := (heap_alloc_old w ob b h.lt).trans h
theorem Blk.new (w : World) (L : List Value) (e : TypeId) : Blk (w.alloc (.cells L.toArray e)) w.heap.size L e := heap_alloc_new w _
theorem Blk.set {b : Nat} {L : List Value} {e : TypeId} (h : Blk w b L e) (L' : List Value) : Blk (w.setRow b L'.toArray) b L' e := setRow_heap w b _ _ e _ h
theorem Blk.other {b c : Nat} {L : List Value} {e : TypeId} (h : Blk w b L e) (X : Array Value) (hne : b ≠ c) : Blk (w.setRow c X) b L e := by
  unfold Blk at *
  rw [setRow_other w c b X hne]; exact h
theorem Blk.cell {b i : Nat} {L : List Value} {e : TypeId} (h : Blk w b L e) (hv : L[i]? = some v) : w.cell? ⟨b, i, none⟩ = some v := by
  unfold Blk at h
  simp only [World.cell?, h]
  simpa using hv
theorem Blk.frozen {b i : Nat} {L : List Value} {e : TypeId} (h : Blk w b L e) : w.frozen? ⟨b, i, none⟩ = false := by
  unfold Blk at h
  simp [World.frozen?, h]
theorem Blk.range {b i : Nat} {L cs : List Value} {e : TypeId} (h : Blk w b L e) (hc : (L.drop i).take cs.length = cs) : w.rangeAt b i cs := fun j u hu => by
  refine h.cell ?_
  rw [← hc, List.getElem?_take] at hu
  split at hu
  · simpa using hu
  · cases hu
theorem Blk.there {b i m : Nat} {L : List Value} {e : TypeId} (h : Blk w b L e) (hl : i + m ≤ L.length) : w.there b i m := fun j hj => by
  refine ⟨?_, h.frozen⟩
  rw [h.cell (v := L[i + j]'(by omega)) (List.getElem?_eq_getElem (by omega))]
  rfl

def splice (L : List Value) (i : Nat) (vs : List Value) : List Value := L.take i ++ vs ++ L.drop (i + vs.length)
theorem splice_length {L vs : List Value} {i : Nat} (h : i + vs.length ≤ L.length) : (splice L i vs).length = L.length := by
  simp [splice]; omega

theorem setRow_setCell (w : World) (b i : Nat) (v : Value) (X : Array Value) : (w.setCell ⟨b, i, none⟩ v).setRow b X = w.setRow b X := by
  have : (w.setCell ⟨b, i, none⟩ v).setRow b X = { w with heap := ((w.heap.modify b fun | .cells c elem frozen => .cells (if (none : Option Nat).isSome then c else c.setIfInBounds i v) elem frozen | o => o).modify b fun | .cells _ elem frozen => .cells X elem frozen | o => o) } := rfl
  rw [this]
  unfold World.setRow
  congr 1
  apply Array.ext
  · simp
  · intro j h1 h2
    simp only [Array.getElem_modify]
    by_cases e : b = j
    · subst e
      simp only [if_true]
      cases w.heap[b]'(by simpa using h2) <;> rfl
    · simp [e]

theorem setCells_eq {e : TypeId} : ∀ (vs : List Value) (w : World) (b i : Nat) (L : List Value), Blk w b L e → i + vs.length ≤ L.length → w.setCells b i vs = w.setRow b (splice L i vs).toArray
  | [], w, b, i, L, h, _ => by
    have hs : splice L i [] = L := by simp [splice]
    rw [hs]
    unfold World.setCells World.setRow
    cases w with
    | mk heap tape drawn os output =>
      congr 1
      apply Array.ext
      · simp
      · intro j h1 h2
        simp only [Array.getElem_modify]
        by_cases ej : b = j
        · subst ej
          have hb : heap[b] = .cells L.toArray e (0, 0) := by
            have := h
            unfold Blk at this
            simpa [Array.getElem?_eq_some_iff, h1] using this
          simp [hb]
        · simp [ej]
  | v :: r, w, b, i, L, h, hl => by
    simp only [List.length_cons] at hl
    have h1 : Blk (w.setCell ⟨b, i, none⟩ v) b (L.set i v) e := by
      unfold Blk at *
      simp only [World.setCell, Array.getElem?_modify, if_true, h, Option.map_some]
      simp
    rw [World.setCells, setCells_eq r _ b (i + 1) (L.set i v) h1 (by simp; omega), setRow_setCell]
    have hi : i < L.length := by omega
    have t1 : (L.set i v).take (i + 1) = L.take i ++ [v] := by
      rw [List.take_succ_eq_append_getElem (by simpa using hi), List.take_set_of_le (Nat.le_refl _)]
      simp
    have t2 : (L.set i v).drop (i + 1 + r.length) = L.drop (i + (r.length + 1)) := by
      rw [List.drop_set_of_lt (by omega), Nat.add_assoc, Nat.add_comm 1]
    simp only [splice, List.length_cons, t1, t2]
    simp

theorem val_load1 {t : TypeId} {x : Operand} {b i : Nat} (hT : T.check P = true) (ho : o.op = .load t x) (hx : ev σ x = some (.pointer (some ⟨b, i, none⟩))) (ht : find T.one t = some ()) (hc : w.cell? ⟨b, i, none⟩ = some v) : Val P n σ o w v := by
  intro a ha
  have hs := Tbl.one_ok hT ht
  unfold oneOk at hs
  cases hu : P.underlying t with
  | none => simp [hu] at hs
  | some d =>
    have hagg : (isAgg t).run P w = .ok false w := by
      unfold isAgg
      rw [Sem.run_bind, run_underlying hu w]
      cases d <;> simp_all
    simp [execOp, ho, ha.eval hx, Instr.loadAt, Instr.sureAddr, loadVar, hagg, hc]

theorem loadVar_agg {t b i : Nat} {cs : List Value} (hT : T.check P = true) (ht : find T.ag t = some cs.length) (hc : w.rangeAt b i cs) : (loadVar t ⟨b, i, none⟩).run P w = .ok (.agg cs.toArray) w := by
  have hs := Tbl.ag_ok hT ht
  unfold agOk at hs
  cases hu : P.underlying t with
  | none => simp [hu] at hs
  | some d =>
    have hd : d.isRow = true := by cases d <;> simp_all
    refine run_loadVar_mid w b i t cs d hc hu hd ?_
    refine sizeOk_info ?_
    cases d <;> simp_all

theorem val_load {t : TypeId} {x : Operand} {b i : Nat} (cs : List Value) (hT : T.check P = true) (ho : o.op = .load t x) (hx : ev σ x = some (.pointer (some ⟨b, i, none⟩))) (ht : find T.ag t = some cs.length) (hc : w.rangeAt b i cs) : Val P n σ o w (.agg cs.toArray) := by
  intro a ha
  simp [execOp, ho, ha.eval hx, Instr.loadAt, Instr.sureAddr, loadVar_agg hT ht hc]

theorem val_index {t : TypeId} {x ix : Operand} {b q len cap sz : Nat} {kk : IntKind} (j : Nat) {i : Int} (hT : T.check P = true) (ho : o.op = .indexAddr t x ix) (hx : ev σ x = some (.slice (some ⟨b, q, none⟩) len cap)) (hi : ev σ ix = some (.int kk i))
    (ht : find T.sl t = some sz) (hij : i = (j : Int)) (hlt : j < len) (w : World) : Val P n σ o w (.pointer (some ⟨b, q + j * sz, none⟩)) := by
  intro a ha
  subst hij
  have hs := Tbl.sl_ok hT ht
  unfold slOk at hs
  split at hs
  · rename_i e hu
    have h1 : (0 : Int) ≤ (j : Int) ∧ (j : Int) < (len : Int) := by omega
    simp [execOp, ho, ha.eval hx, ha.eval hi, Instr.indexAt, asIntOf, run_underlying hu, hlt, sizeOk_run hs, Addr.add_mid]
  · cases hs

theorem val_indexArr {t : TypeId} {x ix : Operand} {b q len sz : Nat} {kk : IntKind} (j : Nat) {i : Int} (hT : T.check P = true) (ho : o.op = .indexAddr t x ix) (hx : ev σ x = some (.pointer (some ⟨b, q, none⟩))) (hi : ev σ ix = some (.int kk i))
    (ht : find T.ar t = some (len, sz)) (hij : i = (j : Int)) (hlt : j < len) (w : World) : Val P n σ o w (.pointer (some ⟨b, q + j * sz, none⟩)) := by
  intro a ha
  subst hij
  have hs := Tbl.ar_ok hT ht
  unfold arOk at hs
  split at hs
  · rename_i l e hu
    simp only [Bool.and_eq_true, beq_iff_eq] at hs
    obtain ⟨rfl, hs⟩ := hs
    simp [execOp, ho, ha.eval hx, ha.eval hi, Instr.indexAt, Instr.sureAddr, asIntOf, run_underlying hu, hlt, sizeOk_run hs, Addr.add_mid]
  · cases hs

theorem val_sliceArr {t : TypeId} {x : Operand} {b q len sz : Nat} (hT : T.check P = true) (ho : o.op = .slice t x none none none) (hx : ev σ x = some (.pointer (some ⟨b, q, none⟩))) (ht : find T.ar t = some (len, sz)) (w : World) : Val P n σ o w (.slice (some ⟨b, q, none⟩) len len) := by
  intro a ha
  have hs := Tbl.ar_ok hT ht
  unfold arOk at hs
  split at hs
  · rename_i l e hu
    simp only [Bool.and_eq_true, beq_iff_eq] at hs
    obtain ⟨rfl, hs⟩ := hs
    simp [execOp, ho, ha.eval hx, Instr.sliceAt, Instr.sliceBounds, Instr.sureAddr, run_underlying hu, sizeOk_run hs, Addr.add]
  · cases hs

/-- A slice that is not nil, held against nil. -/
theorem val_notNil {t t' : TypeId} {x : Operand} {ad : Addr} {len cap sz : Nat} (hT : T.check P = true) (ho : o.op = .binOp .eql t x (.const (.slice none 0 0)) t') (hx : ev σ x = some (.slice (some ad) len cap)) (ht : find T.sl t = some sz) (w : World) : Val P n σ o w (.bool false) := by
  intro a ha
  have hs := Tbl.sl_ok hT ht
  unfold slOk at hs
  split at hs
  · rename_i e hu
    have he : ∀ d, (Op.equalIn (d + 1) t (.slice (some ad) len cap) (.slice none 0 0)).run P w = .ok false w := fun d => by
      simp [Op.equalIn, run_underlying hu]
    have he' : (Op.equal t (.slice (some ad) len cap) (.slice none 0 0)).run P w = .ok false w := he 9999
    have hc : a.eval (.const (.slice none 0 0)) = .slice none 0 0 := rfl
    simp [execOp, ho, ha.eval hx, hc, eqGuard, binOp, he']
  · cases hs

theorem opTo_store {t : TypeId} {x y : Operand} {b i : Nat} {L : List Value} {e : TypeId} {K : Value → World → Prop} (cs : List Value) (ho : o.op = .store t x y) (hx : ev σ x = some (.pointer (some ⟨b, i, none⟩))) (hy : ev σ y = some v) (hc : v.cells = cs.toArray)
    (hz : sizeOk P t cs.length = true) (hb : Blk w b L e) (hl : i + cs.length ≤ L.length) (h1 : ∀ u ∈ cs, u.oneCell' = true) (hK : K undef (w.setRow b (splice L i cs).toArray)) : OpTo P n σ o w K := by
  refine opTo_skip (w' := w.setRow b (splice L i cs).toArray) (fun a ha => ?_) hK
  have hth := hb.there hl
  have hst := run_storeCells_cells (P := P) b i cs 0 w (fun j hj => by simpa using (hth j hj).1) (fun j hj => by simpa using (hth j hj).2) h1
  rw [Nat.add_zero, setCells_eq cs w b i L hb hl] at hst
  simp [execOp, ho, ha.eval hx, ha.eval hy, Instr.storeAt, Instr.sureAddr, storeVar, sizeOk_run hz, hst, hc]

theorem opTo_box {t : TypeId} {x : Operand} {K : Value → World → Prop} (cs : List Value) (ho : o.op = .box t x) (hx : ev σ x = some v) (hc : v.cells = cs.toArray) (hK : K (.pointer (some ⟨w.heap.size, 0, none⟩)) (w.alloc (.cells cs.toArray t))) : OpTo P n σ o w K := by
  refine opTo_run (w' := w.alloc (.cells cs.toArray t)) (fun a ha => ?_) hK
  simp [execOp, ho, ha.eval hx, Instr.box, newVar, newRow, newObj, Sem.run, hc]

theorem opTo_alloc {t : TypeId} (cs : List Value) {K : Value → World → Prop} (ho : o.op = .alloc t) (hz : ((P.info? t).bind (·.zero)).map (·.cells) = some cs.toArray) (hK : K (.pointer (some ⟨w.heap.size, 0, none⟩)) (w.alloc (.cells cs.toArray t))) : OpTo P n σ o w K := by
  refine opTo_run (w' := w.alloc (.cells cs.toArray t)) (fun a _ => ?_) hK
  cases hi : P.info? t with
  | none => simp [hi] at hz
  | some i =>
    cases hzz : i.zero with
    | none => simp [hi, hzz] at hz
    | some z =>
      have hc : z.cells = cs.toArray := by simpa [hi, hzz] using hz
      simp [execOp, ho, Instr.alloc, zeroValue, typeInfo, hi, hzz, newVar, newRow, newObj, Sem.run, hc]

def evParts (σ : Env) : List (Nat × Operand) → Option (List (Nat × Value))
  | [] => some []
  | p :: r => match ev σ p.2 with
    | none => none
    | some v => match evParts σ r with
      | none => none
      | some vs => some ((p.1, v) :: vs)
theorem Fr.parts {a : Act} (h : Fr n σ a) : ∀ {ps : List (Nat × Operand)} {vs : List (Nat × Value)}, evParts σ ps = some vs → (ps.map fun (i, x) => (i, a.eval x)) = vs
  | [], vs, hv => by simp [evParts] at hv; subst hv; rfl
  | p :: r, vs, hv => by
    simp only [evParts] at hv
    cases hx : ev σ p.2 with
    | none => simp [hx] at hv
    | some v =>
      cases hr : evParts σ r with
      | none => simp [hx, hr] at hv
      | some us =>
        simp only [hx, hr, Option.some.injEq] at hv
        subst hv
        simp [h.eval hx, h.parts hr]

theorem val_build {t : TypeId} {ps : Array (Nat × Operand)} {vs : List (Nat × Value)} (cells : List Value) (ho : o.op = .build t ps) (hv : evParts σ ps.toList = some vs) (hb : P.built t vs = some cells.toArray) (w : World) : Val P n σ o w (.agg cells.toArray) := by
  intro a ha
  have he := map_eq_toArray (ha.parts hv)
  simp only [execOp, ho]
  rw [he, Sem.run_bind, run_build w t vs.toArray cells.toArray (by simpa using hb)]
  rfl

/-- The row that a slice's literal makes. -/
def sliceCells (P : Program) (t len : Nat) (parts : List (Nat × Value)) : Option (TypeId × Array Value) :=
  match P.underlying t with
  | some (.slice e) => match P.info? e with
    | some i => if len * i.size > 2 ^ 24 then none else
      if len * i.size = 0 then (Instr.fill (fun j => some (j * i.size, i.size)) ((Array.range (len * i.size)).map fun x => ((#[] : Array Value)[x % 0]!)) parts).map fun c => (e, c)
      else match i.zero with
        | some z => (Instr.fill (fun j => some (j * i.size, i.size)) ((Array.range (len * i.size)).map fun x => (z.cells[x % z.cells.size]!)) parts).map fun c => (e, c)
        | none => none
    | none => none
  | _ => none

theorem opTo_buildSlice {t len : Nat} {ps : Array (Nat × Operand)} {vs : List (Nat × Value)} (e : TypeId) (cells : List Value) {K : Value → World → Prop} (ho : o.op = .buildSlice t len ps) (hv : evParts σ ps.toList = some vs)
    (hb : sliceCells P t len vs = some (e, cells.toArray)) (hK : K (.slice (some ⟨w.heap.size, 0, none⟩) len len) (w.alloc (.cells cells.toArray e))) : OpTo P n σ o w K := by
  refine opTo_run (w' := w.alloc (.cells cells.toArray e)) (fun a ha => ?_) hK
  have he := map_eq_toArray (ha.parts hv)
  simp only [execOp, ho]
  rw [he]
  unfold sliceCells at hb
  split at hb
  · rename_i e' hu
    split at hb
    · rename_i i hi
      split at hb
      · cases hb
      · rename_i hle
        split at hb
        · rename_i h0
          simp only [Option.map_eq_some_iff, Prod.mk.injEq] at hb
          obtain ⟨c, hc, rfl, rfl⟩ := hb
          simp only [Instr.buildSlice, Sem.run_bind, run_underlying hu, Result.andThen_ok, sizeOf, typeInfo, Sem.run_pure]
          simp [program, Sem.run, hi, h0, newRow, newObj] at hc ⊢
          simp [hc, Sem.run]
        · rename_i h0
          split at hb
          · rename_i z hz
            simp only [Option.map_eq_some_iff, Prod.mk.injEq] at hb
            obtain ⟨c, hc, rfl, rfl⟩ := hb
            simp [Instr.buildSlice, run_underlying hu, sizeOf, typeInfo, zeroValue, hi, hle, h0, hz, hc, newRow, newObj, Sem.run]
          · cases hb
    · cases hb
  · cases hb

/-! ### Calls -/
def callable (P : Program) (g : Nat) : Bool :=
  match P.funcs[g]? with
  | some fn => !(fn.name == "runtime.NumGoroutine") && fn.body.isSome
  | none => false

theorem opTo_call {c : Call} {x : Operand} {g : Nat} {fst vs cap : List Value} {K : Value → World → Prop} (ho : o.op = .call c) (hc : c.callee = .value x) (hx : ev σ x = some (.func (.func g) fst.toArray cap.toArray)) (hv : evs σ c.args.toList = some vs)
    (hg : callable P g = true) (hK : Ret P g (fst ++ vs ++ cap) w K) : OpTo P n σ o w K := fun a ha next Q hn => by
  have hargs := map_eq_toArray (ha.evals hv)
  have hrun : (execOp a.eval o).run P w = .ok (.enter g (fst ++ vs ++ cap).toArray) w := by
    unfold callable at hg
    split at hg
    · rename_i fn hfn
      simp only [Bool.and_eq_true, Bool.not_eq_true'] at hg
      have hbody : ¬ fn.body = none := by
        intro hb
        simp [hb] at hg
      have hname : ¬ fn.name = "runtime.NumGoroutine" := by simpa using hg.1
      simp [execOp, ho, resolve, hc, hargs, ha.eval hx, Deferred.ofValue, invoke, callFunc, hfn, hname, hbody]
    · cases hg
  simp only [Oper.wp, hrun, Oper.upon]
  refine Calls.mono hK fun e w' he => ?_
  obtain ⟨v, rfl, hv⟩ := he
  exact hn v w' hv
end
end E
end Go.Proofs.YthidfgolcibcoacDoor
