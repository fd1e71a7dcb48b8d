/- Several texts in one: StepB, StrB, StrC, TokM, TokS, TkA, LdS, TkB, TreeA. -/
import Derived.Test.YtbojicehfbeepadDoorJ02
import Derived.Laws.Strings
import Derived.Lib.ParseIntBTie
import Derived.Lib.ParseIntBCases
import Derived.Lib.ItoaLen
import Derived.Lib.LaidTab
import Derived.Test.YtbojicehfbeepadDoorShelf
import Derived.Lib.SmallJoins
/- Short laws for the steps that come most: a comparison that is so, or is not; a sum within bounds. -/
namespace Go.Proofs.YtbojicehfbeepadDoor
set_option maxRecDepth 20000
set_option maxHeartbeats 4000000
namespace E

def cmpP (op : BinOp) (a b : Int) : Prop :=
  match op with
  | .eql => a = b
  | .neq => a ≠ b
  | .lss => a < b
  | .leq => a ≤ b
  | .gtr => a > b
  | .geq => a ≥ b
  | _ => False
def cmpOk (op : BinOp) : Bool :=
  match op with
  | .eql | .neq | .lss | .leq | .gtr | .geq => true
  | _ => false
theorem intOp_yes {op : BinOp} {k : IntKind} {a b : Int} (h : cmpP op a b) : intOp op k a b = some (.bool true) := by
  cases op <;> simp_all [cmpP, intOp]
theorem intOp_no {op : BinOp} {k : IntKind} {a b : Int} (hk : cmpOk op = true) (h : ¬ cmpP op a b) : intOp op k a b = some (.bool false) := by
  cases op <;> simp_all [cmpP, cmpOk, intOp]
def ariP (op : BinOp) (a b v : Int) : Prop :=
  match op with
  | .add => v = a + b ∧ -9223372036854775808 ≤ a + b ∧ a + b < 9223372036854775808
  | .sub => v = a - b ∧ -9223372036854775808 ≤ a - b ∧ a - b < 9223372036854775808
  | _ => False
theorem intOp_num {op : BinOp} {a b v : Int} (h : ariP op a b v) : intOp op .i64 a b = some (.int .i64 v) := by
  cases op <;> simp only [ariP] at h
  · obtain ⟨rfl, h1, h2⟩ := h
    simp only [intOp, wrap_i64 h1 h2]
  · obtain ⟨rfl, h1, h2⟩ := h
    simp only [intOp, wrap_i64 h1 h2]

section
variable {P : Program} {f n : Nat} {ops : Array Oper} {k : List Item} {R : Post} {σ : Env} {w : World} {o : Oper} {l : List Oper} {op : BinOp} {t t' : TypeId} {x y : Operand} {kk : IntKind} {a b : Int}

theorem pl_yes (hg : guardOf ops σ o.guard = some true) (ho : o.op = .binOp op t x y t') (hx : ev σ x = some (.int kk a)) (hy : ev σ y = some (.int kk b)) (hd : dstOk n o.dst = true) (hc : cmpP op a b)
    (h : Pl P f n ops k R l (put σ o.dst (.bool true)) w) : Pl P f n ops k R (o :: l) σ w := pl_val _ hg hd (val_int kk a b _ ho hx hy (intOp_yes hc) w) h
theorem pl_no (hg : guardOf ops σ o.guard = some true) (ho : o.op = .binOp op t x y t') (hx : ev σ x = some (.int kk a)) (hy : ev σ y = some (.int kk b)) (hd : dstOk n o.dst = true) (hk : cmpOk op = true) (hc : ¬ cmpP op a b)
    (h : Pl P f n ops k R l (put σ o.dst (.bool false)) w) : Pl P f n ops k R (o :: l) σ w := pl_val _ hg hd (val_int kk a b _ ho hx hy (intOp_no hk hc) w) h
theorem pl_num (v : Int) (hg : guardOf ops σ o.guard = some true) (ho : o.op = .binOp op t x y t') (hx : ev σ x = some (.int .i64 a)) (hy : ev σ y = some (.int .i64 b)) (hd : dstOk n o.dst = true) (hc : ariP op a b v)
    (h : Pl P f n ops k R l (put σ o.dst (.int .i64 v)) w) : Pl P f n ops k R (o :: l) σ w := pl_val _ hg hd (val_int .i64 a b _ ho hx hy (intOp_num hc) w) h

variable {S : World → Prop} {T : List Nat} {fuel m : Nat}
theorem dr_yes (i : Nat) (hi : ops[i]? = some o) (hk : takeOk ops m i = true) (hg : guardOf ops σ o.guard = some true) (ho : o.op = .binOp op t x y t') (hx : ev σ x = some (.int kk a)) (hy : ev σ y = some (.int kk b)) (hd : dstOk n o.dst = true) (hc : cmpP op a b)
    (h : Dr P f n ops k R S T fuel (m ||| 2 ^ i) (put σ o.dst (.bool true)) w) : Dr P f n ops k R S T (fuel + 1) m σ w := dr_any i _ hi hk hg hd (fun w => val_int kk a b _ ho hx hy (intOp_yes hc) w) h
theorem dr_no (i : Nat) (hi : ops[i]? = some o) (hk : takeOk ops m i = true) (hg : guardOf ops σ o.guard = some true) (ho : o.op = .binOp op t x y t') (hx : ev σ x = some (.int kk a)) (hy : ev σ y = some (.int kk b)) (hd : dstOk n o.dst = true) (hok : cmpOk op = true) (hc : ¬ cmpP op a b)
    (h : Dr P f n ops k R S T fuel (m ||| 2 ^ i) (put σ o.dst (.bool false)) w) : Dr P f n ops k R S T (fuel + 1) m σ w := dr_any i _ hi hk hg hd (fun w => val_int kk a b _ ho hx hy (intOp_no hok hc) w) h
theorem dr_num (i : Nat) (v : Int) (hi : ops[i]? = some o) (hk : takeOk ops m i = true) (hg : guardOf ops σ o.guard = some true) (ho : o.op = .binOp op t x y t') (hx : ev σ x = some (.int .i64 a)) (hy : ev σ y = some (.int .i64 b)) (hd : dstOk n o.dst = true) (hc : ariP op a b v)
    (h : Dr P f n ops k R S T fuel (m ||| 2 ^ i) (put σ o.dst (.int .i64 v)) w) : Dr P f n ops k R S T (fuel + 1) m σ w := dr_any i _ hi hk hg hd (fun w => val_int .i64 a b _ ho hx hy (intOp_num hc) w) h
theorem tg_yes {i : Nat} (hi : ops[i]? = some o) (hk : takeOk ops m i = true) (hg : guardOf ops σ o.guard = some true) (ho : o.op = .binOp op t x y t') (hx : ev σ x = some (.int kk a)) (hy : ev σ y = some (.int kk b)) (hd : dstOk n o.dst = true) (hc : cmpP op a b) :
    Tg i (Dr P f n ops k R S T fuel (m ||| 2 ^ i) (put σ o.dst (.bool true)) w → Dr P f n ops k R S T (fuel + 1) m σ w) := fun h => dr_yes i hi hk hg ho hx hy hd hc h
theorem tg_no {i : Nat} (hi : ops[i]? = some o) (hk : takeOk ops m i = true) (hg : guardOf ops σ o.guard = some true) (ho : o.op = .binOp op t x y t') (hx : ev σ x = some (.int kk a)) (hy : ev σ y = some (.int kk b)) (hd : dstOk n o.dst = true) (hok : cmpOk op = true) (hc : ¬ cmpP op a b) :
    Tg i (Dr P f n ops k R S T fuel (m ||| 2 ^ i) (put σ o.dst (.bool false)) w → Dr P f n ops k R S T (fuel + 1) m σ w) := fun h => dr_no i hi hk hg ho hx hy hd hok hc h
end

section
variable {P : Program} {n : Nat} {σ : Env} {o : Oper} {w : World} {v : Value} {K : Value → World → Prop}
theorem opTo_boxN {t : TypeId} {x : Operand} (cs : List Value) (ho : o.op = .box t x) (hx : ev σ x = some v) (hc : v.cells = cs.toArray)
    (hK : ∀ w1 b, b = w.heap.size → w1.heap.size = b + 1 → Keep [] w w1 → Blk w1 b cs t → K (.pointer (some ⟨b, 0, none⟩)) w1) : OpTo P n σ o w K :=
  opTo_box cs ho hx hc (hK _ _ rfl (World.size_alloc _ _) ((Keep.refl _ _).alloc _) (Blk.new _ _ _))
theorem opTo_allocN {t : TypeId} (cs : List Value) (ho : o.op = .alloc t) (hz : ((P.info? t).bind (·.zero)).map (·.cells) = some cs.toArray)
    (hK : ∀ w1 b, b = w.heap.size → w1.heap.size = b + 1 → Keep [] w w1 → Blk w1 b cs t → K (.pointer (some ⟨b, 0, none⟩)) w1) : OpTo P n σ o w K :=
  opTo_alloc cs ho hz (hK _ _ rfl (World.size_alloc _ _) ((Keep.refl _ _).alloc _) (Blk.new _ _ _))
theorem opTo_sliceN {t len : Nat} {ps : Array (Nat × Operand)} {vs : List (Nat × Value)} (e : TypeId) (cells : List Value) (ho : o.op = .buildSlice t len ps) (hv : evParts σ ps.toList = some vs)
    (hb : sliceCells P t len vs = some (e, cells.toArray)) (hK : ∀ w1 b, b = w.heap.size → w1.heap.size = b + 1 → Keep [] w w1 → Blk w1 b cells e → K (.slice (some ⟨b, 0, none⟩) len len) w1) : OpTo P n σ o w K :=
  opTo_buildSlice e cells ho hv hb (hK _ _ rfl (World.size_alloc _ _) ((Keep.refl _ _).alloc _) (Blk.new _ _ _))
theorem opTo_storeN {t : TypeId} {x y : Operand} {b i : Nat} {L : List Value} {e : TypeId} (cs : List Value) (ho : o.op = .store t x y) (hx : ev σ x = some (.pointer (some ⟨b, i, none⟩))) (hy : ev σ y = some v) (hc : v.cells = cs.toArray)
    (hz : sizeOk P t cs.length = true) (hb : Blk w b L e) (hl : i + cs.length ≤ L.length) (h1 : ∀ u ∈ cs, u.oneCell' = true)
    (hK : ∀ w1, w1.heap.size = w.heap.size → Keep [b] w w1 → Blk w1 b (splice L i cs) e → K undef w1) : OpTo P n σ o w K :=
  opTo_store cs ho hx hy hc hz hb hl h1 (hK _ (setRow_size _ _ _) ((Keep.refl _ _).setRow _ _ (.inl (by simp))) (hb.set _))
end
theorem Keep.trB {fp : List Nat} {w w' w'' : World} {b : Nat} (h : Keep fp w w') (h' : Keep [b] w' w'') (hb : w.heap.size ≤ b) : Keep fp w w'' :=
  h.trans h' fun k hk => .inr (by simp at hk; omega)
theorem blk_loadVar {P : Program} {T : Tbl} {w : World} {c : Nat} {L : List Value} {e t : TypeId} (hT : T.check P = true) (h : Blk w c L e) (ht : find T.ag t = some L.length) : (loadVar t ⟨c, 0, none⟩).run P w = .ok (.agg L.toArray) w :=
  loadVar_agg hT ht (h.range (by simp))
theorem splice_whole {L cs : List Value} (h : cs.length = L.length) : splice L 0 cs = cs := by
  simp [splice, h]

/-- What F allows is there. -/
def In (F : Nat → Prop) (w : World) : Prop := ∀ k, F k → k < w.heap.size
section
variable {F : Nat → Prop} {w w' : World} {fp : List Nat}
theorem In.keep (h : In F w) (hk : Keep fp w w') : In F w' := fun k hF => Nat.lt_of_lt_of_le (h k hF) hk.size
theorem In.lt (w : World) : In (fun b => b < w.heap.size) w := fun _ h => h
end
theorem range_keep {w w' : World} {b q : Nat} {cs : List Value} {fp : List Nat} (h : w.rangeAt b q cs) (hk : Keep fp w w') (hb : b < w.heap.size) (hn : b ∉ fp) : w'.rangeAt b q cs := fun j v hv => by
  rw [World.cell?_of_block (w := w) (hk.block b hb hn)]
  exact h j v hv

end E
end Go.Proofs.YtbojicehfbeepadDoor

/- Laws of single operations on strings, second part: s[l:h], s + t, an error held against nil, two faults (structs of two numbers) held against one another. -/
namespace Go.Proofs.YtbojicehfbeepadDoor
set_option maxRecDepth 20000
set_option maxHeartbeats 4000000
namespace E

section
variable {P : Program} {n : Nat} {σ : Env} {o : Oper}

/-- s[l:h]. -/
theorem val_strCut {t : Nat} {x lo hi : Operand} {k1 k2 : IntKind} {i1 i2 : Int} (s : ByteArray) (l h : Nat) (ht : isStr P t = true) (ho : o.op = .slice t x (some lo) (some hi) none) (hx : ev σ x = some (.string s))
    (h1 : ev σ lo = some (.int k1 i1)) (h2 : ev σ hi = some (.int k2 i2)) (e1 : i1 = (l : Int)) (e2 : i2 = (h : Int)) (hl : l ≤ h) (hh : h ≤ s.size) (w : World) : Val P n σ o w (.string (s.extract l h)) := by
  intro ac ha
  subst e1; subst e2
  simp [execOp, ho, ha.eval hx, ha.eval h1, ha.eval h2, Instr.sliceAt, Instr.slice, Instr.sliceBounds, Instr.sliceBound, asIntOf, run_underlying (isStr_spec ht), hl, hh]
/-- s[l:]. -/
theorem val_strFrom {t : Nat} {x lo : Operand} {k1 : IntKind} {i1 : Int} (s : ByteArray) (l : Nat) (ht : isStr P t = true) (ho : o.op = .slice t x (some lo) none none) (hx : ev σ x = some (.string s))
    (h1 : ev σ lo = some (.int k1 i1)) (e1 : i1 = (l : Int)) (hl : l ≤ s.size) (w : World) : Val P n σ o w (.string (s.extract l s.size)) := by
  intro ac ha
  subst e1
  simp [execOp, ho, ha.eval hx, ha.eval h1, Instr.sliceAt, Instr.slice, Instr.sliceBounds, Instr.sliceBound, asIntOf, run_underlying (isStr_spec ht), hl]
/-- s[:h]. -/
theorem val_strTo {t : Nat} {x hi : Operand} {k2 : IntKind} {i2 : Int} (s : ByteArray) (h : Nat) (ht : isStr P t = true) (ho : o.op = .slice t x none (some hi) none) (hx : ev σ x = some (.string s))
    (h2 : ev σ hi = some (.int k2 i2)) (e2 : i2 = (h : Int)) (hh : h ≤ s.size) (w : World) : Val P n σ o w (.string (s.extract 0 h)) := by
  intro ac ha
  subst e2
  simp [execOp, ho, ha.eval hx, ha.eval h2, Instr.sliceAt, Instr.slice, Instr.sliceBounds, Instr.sliceBound, asIntOf, run_underlying (isStr_spec ht), hh]

/-- s + t. -/
theorem val_strAdd {t t' : Nat} {x y : Operand} (a b : ByteArray) (ho : o.op = .binOp .add t x y t') (hx : ev σ x = some (.string a)) (hy : ev σ y = some (.string b)) (hs : a.size + b.size ≤ 9223372036854775807) (w : World) : Val P n σ o w (.string (a ++ b)) := by
  intro ac ha
  simp only [execOp, ho, ha.eval hx, ha.eval hy, Sem.run_bind]
  simp [eqGuard, binOp, Op.stringOp]
  omega

/-- A string's bytes. -/
theorem toList_extract (s : ByteArray) (l h : Nat) : (s.extract l h).data.toList = (s.data.toList.drop l).take (h - l) := by
  rw [ByteArray.data_extract, Array.toList_extract, List.extract_eq_drop_take']
  rw [List.drop_take]
theorem toList_add (a b : ByteArray) : (a ++ b).data.toList = a.data.toList ++ b.data.toList := by
  rw [ByteArray.data_append, Array.toList_append]
theorem size_toList (s : ByteArray) : s.data.toList.length = s.size := by
  rw [Array.length_toList]; rfl

def isIface (P : Program) (t : Nat) : Bool :=
  match P.underlying t with
  | some (.interface _) => true
  | _ => false
theorem isIface_spec {t : Nat} (h : isIface P t = true) : ∃ ms, P.underlying t = some (.interface ms) := by
  unfold isIface at h
  split at h
  · rename_i ms hu; exact ⟨ms, hu⟩
  · cases h

theorem eq_nil_nil {t : Nat} {ms : Array (String × TypeId)} (hu : P.underlying t = some (.interface ms)) (w : World) : (Op.equal t .nilIface .nilIface).run P w = .ok true w := by
  have e : ∀ d, (Op.equalIn (d + 1) t .nilIface .nilIface).run P w = .ok true w := by
    intro d
    simp [Op.equalIn, run_underlying hu]
  exact e 9999
theorem eq_some_nil {t : Nat} {ms : Array (String × TypeId)} (hu : P.underlying t = some (.interface ms)) (tp : TypeId) (v : Value) (w : World) : (Op.equal t (.iface tp v) .nilIface).run P w = .ok false w := by
  have e : ∀ d, (Op.equalIn (d + 1) t (.iface tp v) .nilIface).run P w = .ok false w := by
    intro d
    simp [Op.equalIn, run_underlying hu]
  exact e 9999
/-- err != nil, err == nil. -/
theorem val_errNil {t t' : Nat} {x : Operand} (h : isIface P t = true) (ho : o.op = .binOp .neq t x (.const .nilIface) t') (hx : ev σ x = some .nilIface) (w : World) : Val P n σ o w (.bool false) := by
  intro ac ha
  obtain ⟨ms, hu⟩ := isIface_spec h
  have e := eq_nil_nil hu w
  have hc : ac.eval (.const .nilIface) = .nilIface := ha.eval (x := .const .nilIface) rfl
  simp [execOp, ho, ha.eval hx, hc, eqGuard, binOp, e]
theorem val_errSome {t t' : Nat} {x : Operand} (tp : TypeId) (v : Value) (h : isIface P t = true) (ho : o.op = .binOp .neq t x (.const .nilIface) t') (hx : ev σ x = some (.iface tp v)) (w : World) : Val P n σ o w (.bool true) := by
  intro ac ha
  obtain ⟨ms, hu⟩ := isIface_spec h
  have e := eq_some_nil hu tp v w
  have hc : ac.eval (.const .nilIface) = .nilIface := ha.eval (x := .const .nilIface) rfl
  simp [execOp, ho, ha.eval hx, hc, eqGuard, binOp, e]
theorem val_errNilE {t t' : Nat} {x : Operand} (h : isIface P t = true) (ho : o.op = .binOp .eql t x (.const .nilIface) t') (hx : ev σ x = some .nilIface) (w : World) : Val P n σ o w (.bool true) := by
  intro ac ha
  obtain ⟨ms, hu⟩ := isIface_spec h
  have e := eq_nil_nil hu w
  have hc : ac.eval (.const .nilIface) = .nilIface := ha.eval (x := .const .nilIface) rfl
  simp [execOp, ho, ha.eval hx, hc, eqGuard, binOp, e]
theorem val_errSomeE {t t' : Nat} {x : Operand} (tp : TypeId) (v : Value) (h : isIface P t = true) (ho : o.op = .binOp .eql t x (.const .nilIface) t') (hx : ev σ x = some (.iface tp v)) (w : World) : Val P n σ o w (.bool false) := by
  intro ac ha
  obtain ⟨ms, hu⟩ := isIface_spec h
  have e := eq_some_nil hu tp v w
  have hc : ac.eval (.const .nilIface) = .nilIface := ha.eval (x := .const .nilIface) rfl
  simp [execOp, ho, ha.eval hx, hc, eqGuard, binOp, e]

/-- A struct of two numbers. -/
def isTwo (P : Program) (t : Nat) : Bool :=
  match P.underlying t with
  | some (.struct fs) => match fs.toList with
    | [f, g] => f.offset == 0 && g.offset == 1 && (f.name != "_") && (g.name != "_") && (match P.underlying f.type with | some (.int _) => true | _ => false) && (match P.underlying g.type with | some (.int _) => true | _ => false) && !(P.stoodInHeld t) && !(P.eqGuardType P.depth t)
    | _ => false
  | _ => false

theorem run_equal_two {t : Nat} (h : isTwo P t = true) (a b x y : Int) (w : World) :
    (Op.equalIn 10000 t (.agg #[.int .i64 a, .int .i64 x]) (.agg #[.int .i64 b, .int .i64 y])).run P w = .ok (a == b && x == y) w ∧ P.eqGuardType P.depth t = false := by
  unfold isTwo at h
  split at h
  · rename_i fs hu
    split at h
    · rename_i f g hfs
      simp only [Bool.and_eq_true, beq_iff_eq, bne_iff_ne, Bool.not_eq_true'] at h
      obtain ⟨⟨⟨⟨⟨⟨⟨h1, h2⟩, h3⟩, h4⟩, h5⟩, h6⟩, h7⟩, h8⟩ := h
      refine ⟨?_, h8⟩
      have hf : P.fieldsOf t = fs := by simp [Program.fieldsOf, hu]
      split at h5
      · rename_i k0 hs
        split at h6
        · rename_i k hk
          rw [run_equalIn_struct w 9999 t _ _ (by rw [hf]; exact hu) h7, hf, hfs]
          have e1 := run_equalIn_int (P := P) w 9998 f.type .i64 k0 a b hs
          have e2 := run_equalIn_int (P := P) w 9998 g.type .i64 k x y hk
          have p1 : (part f.type #[.int .i64 a, .int .i64 x] 0).run P w = .ok (.int .i64 a) w := by simp [part, isAgg, run_underlying hs]
          have p2 : (part f.type #[.int .i64 b, .int .i64 y] 0).run P w = .ok (.int .i64 b) w := by simp [part, isAgg, run_underlying hs]
          have p3 : (part g.type #[.int .i64 a, .int .i64 x] 1).run P w = .ok (.int .i64 x) w := by simp [part, isAgg, run_underlying hk]
          have p4 : (part g.type #[.int .i64 b, .int .i64 y] 1).run P w = .ok (.int .i64 y) w := by simp [part, isAgg, run_underlying hk]
          simp only [Op.eqFields, h1, h2, h3, h4, ne_eq, not_false_eq_true, if_true, Sem.run_bind, p1, p2, Result.andThen_ok, e1]
          generalize (a == b) = p at *
          generalize (x == y) = q at *
          have e2' : (Op.equalIn 9999 g.type (.int .i64 x) (.int .i64 y)).run P w = .ok q w := e2
          cases p <;> cases q <;> simp [p3, p4, e2']
        · cases h6
      · cases h5
    · cases h
  · cases h
theorem val_neTwo {t t' : Nat} {x y : Operand} (a b k l : Int) (r : Bool) (h : isTwo P t = true) (ho : o.op = .binOp .neq t x y t') (hx : ev σ x = some (.agg #[.int .i64 a, .int .i64 k])) (hy : ev σ y = some (.agg #[.int .i64 b, .int .i64 l]))
    (hr : (!(a == b && k == l)) = r) (w : World) : Val P n σ o w (.bool r) := by
  intro ac ha
  subst hr
  obtain ⟨h1, h2⟩ := run_equal_two h a b k l w
  simp only [execOp, ho, ha.eval hx, ha.eval hy, Sem.run_bind, run_eqGuard_agg w .neq t _ _ _ _ h2, Result.andThen_ok, run_neq_struct, h1]
  simp
theorem val_eqTwo {t t' : Nat} {x y : Operand} (a b k l : Int) (r : Bool) (h : isTwo P t = true) (ho : o.op = .binOp .eql t x y t') (hx : ev σ x = some (.agg #[.int .i64 a, .int .i64 k])) (hy : ev σ y = some (.agg #[.int .i64 b, .int .i64 l]))
    (hr : (a == b && k == l) = r) (w : World) : Val P n σ o w (.bool r) := by
  intro ac ha
  subst hr
  obtain ⟨h1, h2⟩ := run_equal_two h a b k l w
  simp only [execOp, ho, ha.eval hx, ha.eval hy, Sem.run_bind, run_eqGuard_agg w .eql t _ _ _ _ h2, Result.andThen_ok, run_eql_struct, h1]
  simp
end
end E
end Go.Proofs.YtbojicehfbeepadDoor

/- Texts as lists of bytes; laws of single operations on them. -/
namespace Go.Proofs.YtbojicehfbeepadDoor
set_option maxRecDepth 20000
set_option maxHeartbeats 4000000
namespace E

def str (l : List UInt8) : ByteArray := ⟨l.toArray⟩
theorem str_list (l : List UInt8) : (str l).data.toList = l := by simp [str]
theorem str_data (s : ByteArray) : str s.data.toList = s := by
  cases s
  simp [str]
theorem str_size (l : List UInt8) : (str l).size = l.length := by rw [← size_toList, str_list]
theorem str_of {s : ByteArray} {l : List UInt8} (h : s.data.toList = l) : s = str l := by rw [← h, str_data]
theorem str_get {l : List UInt8} {j : Nat} {c : UInt8} (h : l[j]? = some c) : (str l)[j]? = some c := by
  have hj := (List.getElem?_eq_some_iff.1 h).1
  have hs : j < (str l).size := by rw [str_size]; exact hj
  rw [getElem?_pos (str l) j hs]
  have e := (List.getElem?_eq_some_iff.1 h).2
  rw [← e]
  rfl
theorem str_cut (l : List UInt8) (a b : Nat) : (str l).extract a b = str ((l.drop a).take (b - a)) := str_of (by rw [toList_extract, str_list])
theorem str_from (l : List UInt8) (a : Nat) : (str l).extract a (str l).size = str (l.drop a) := by
  rw [str_cut, str_size]
  congr 1
  rw [List.take_of_length_le (by rw [List.length_drop]; exact Nat.le_refl _)]
theorem str_to (l : List UInt8) (b : Nat) : (str l).extract 0 b = str (l.take b) := by
  rw [str_cut]
  rfl
theorem str_add (a b : List UInt8) : str a ++ str b = str (a ++ b) := str_of (by rw [toList_add, str_list, str_list])
theorem str_toList (l : List UInt8) : (str l).toList = l := by
  simp [str]

section
variable {P : Program} {n : Nat} {σ : Env} {o : Oper}
theorem val_len {t : Nat} {x : Operand} (l : List UInt8) (h : isStr P t = true) (ho : o.op = .call { callee := .builtin .len, args := #[x], argTypes := #[t] }) (hx : ev σ x = some (.string (str l))) (w : World) : Val P n σ o w (.int .i64 (l.length : Nat)) := by
  have := val_strLen (n := n) (str l) h ho hx w
  rwa [str_size] at this
theorem val_byte {t : Nat} {x ix : Operand} {kk : IntKind} (l : List UInt8) (j : Nat) (c : UInt8) {i : Int} (h : isStr P t = true) (ho : o.op = .index t x ix) (hx : ev σ x = some (.string (str l))) (hi : ev σ ix = some (.int kk i))
    (hij : i = (j : Int)) (hc : l[j]? = some c) (w : World) : Val P n σ o w (.int .u8 (c.toNat : Nat)) := val_strAt (str l) j c h ho hx hi hij (str_get hc) w
theorem val_cut {t : Nat} {x lo hi : Operand} {k1 k2 : IntKind} {i1 i2 : Int} (l : List UInt8) (a b : Nat) (ht : isStr P t = true) (ho : o.op = .slice t x (some lo) (some hi) none) (hx : ev σ x = some (.string (str l)))
    (h1 : ev σ lo = some (.int k1 i1)) (h2 : ev σ hi = some (.int k2 i2)) (e1 : i1 = (a : Int)) (e2 : i2 = (b : Int)) (hl : a ≤ b) (hh : b ≤ l.length) (w : World) : Val P n σ o w (.string (str ((l.drop a).take (b - a)))) := by
  have := val_strCut (n := n) (str l) a b ht ho hx h1 h2 e1 e2 hl (by rw [str_size]; exact hh) w
  rwa [str_cut] at this
theorem val_from {t : Nat} {x lo : Operand} {k1 : IntKind} {i1 : Int} (l : List UInt8) (a : Nat) (ht : isStr P t = true) (ho : o.op = .slice t x (some lo) none none) (hx : ev σ x = some (.string (str l)))
    (h1 : ev σ lo = some (.int k1 i1)) (e1 : i1 = (a : Int)) (hl : a ≤ l.length) (w : World) : Val P n σ o w (.string (str (l.drop a))) := by
  have := val_strFrom (n := n) (str l) a ht ho hx h1 e1 (by rw [str_size]; exact hl) w
  rwa [str_from] at this
theorem val_to {t : Nat} {x hi : Operand} {k2 : IntKind} {i2 : Int} (l : List UInt8) (b : Nat) (ht : isStr P t = true) (ho : o.op = .slice t x none (some hi) none) (hx : ev σ x = some (.string (str l)))
    (h2 : ev σ hi = some (.int k2 i2)) (e2 : i2 = (b : Int)) (hh : b ≤ l.length) (w : World) : Val P n σ o w (.string (str (l.take b))) := by
  have := val_strTo (n := n) (str l) b ht ho hx h2 e2 (by rw [str_size]; exact hh) w
  rwa [str_to] at this
theorem val_add {t t' : Nat} {x y : Operand} (a b : List UInt8) (ho : o.op = .binOp .add t x y t') (hx : ev σ x = some (.string (str a))) (hy : ev σ y = some (.string (str b))) (hs : a.length + b.length ≤ 9223372036854775807) (w : World) : Val P n σ o w (.string (str (a ++ b))) := by
  have := val_strAdd (P := P) (n := n) (str a) (str b) ho hx hy (by rw [str_size, str_size]; exact hs) w
  rwa [str_add] at this
theorem val_neS {t t' : Nat} {x y : Operand} (a b : List UInt8) (r : Bool) (ho : o.op = .binOp .neq t x y t') (hx : ev σ x = some (.string (str a))) (hy : ev σ y = some (.string (str b))) (hr : (!(a == b)) = r) (w : World) : Val P n σ o w (.bool r) :=
  val_neStr (str a) (str b) r ho hx hy (by rw [str_toList, str_toList]; exact hr) w

variable {f : Nat} {k : List Item} {K Kp : Value → World → Prop} {w : World}
theorem rn_retTC {fn : Func} {t0 t1 ty : Nat} {ad : Addr} {x y : Value} (hf : P.funcs[f]? = some fn) (hr : fn.results = #[.tmp t0, .cell t1 ty]) (h0 : look σ t0 = some x) (h1 : look σ t1 = some (.pointer (some ad))) (hv : (loadVar ty ad).run P w = .ok y w)
    (hR : K (.tuple #[x, y]) w) : Rn P f n (.code .ret :: k) (endR K Kp) σ w := fun a ha hd =>
  runs_ret hf hd (by simp only [results, hr]; simp [ha.has t0 _ h0, ha.has t1 _ h1, asAddr, hv]) hR
end

end E
end Go.Proofs.YtbojicehfbeepadDoor

/- Plain mathematics of tokens: what a text's tokens are; the texts of tokens, with blanks between, are the same tokens again. -/
namespace Go.Proofs.YtbojicehfbeepadDoor
set_option maxRecDepth 20000
set_option maxHeartbeats 4000000
namespace E

open Go.Lib

/-! ### Numbers -/

def dig (c : UInt8) : Bool := decide (48 ≤ c.toNat) && decide (c.toNat ≤ 57)
theorem dig_iff (c : UInt8) : dig c = true ↔ 48 ≤ c.toNat ∧ c.toNat ≤ 57 := by simp [dig]

def valD (acc : Nat) : List UInt8 → Nat
  | [] => acc
  | c :: r => valD (acc * 10 + (c.toNat - 48)) r

theorem valD_le : ∀ (l : List UInt8) (acc : Nat), acc ≤ valD acc l
  | [], _ => Nat.le_refl _
  | c :: r, acc => by
    have h := valD_le r (acc * 10 + (c.toNat - 48))
    show acc ≤ valD (acc * 10 + (c.toNat - 48)) r
    omega

theorem valD_append : ∀ (l : List UInt8) (acc : Nat) (c : UInt8), valD acc (l ++ [c]) = valD acc l * 10 + (c.toNat - 48)
  | [], _, _ => rfl
  | _ :: r, _, c => valD_append r _ c

/-- Digits that spell a number that fits are parsed so. -/
theorem parseUintM_digs (M : Nat) (hM : M ≤ 18446744073709551615) : ∀ (l : List UInt8) (acc : Nat), l.all dig = true → valD acc l ≤ M → parseUintM M acc l = .ok (valD acc l)
  | [], _, _, _ => rfl
  | c :: r, acc, hd, hv => by
    rw [List.all_cons, Bool.and_eq_true] at hd
    have hc := (dig_iff c).1 hd.1
    have hle := valD_le r (acc * 10 + (c.toNat - 48))
    have hv2 : valD (acc * 10 + (c.toNat - 48)) r ≤ M := hv
    simp only [parseUintM]
    rw [if_pos hc, if_neg (by omega), if_neg (by omega)]
    exact parseUintM_digs M hM r _ hd.2 hv2

/-- What is parsed is digits, and their number. -/
theorem parseUintM_ok (M : Nat) : ∀ (l : List UInt8) (acc u : Nat), parseUintM M acc l = .ok u → l.all dig = true ∧ u = valD acc l
  | [], acc, u, h => by
    simp only [parseUintM] at h
    injection h with h
    exact ⟨rfl, h.symm⟩
  | c :: r, acc, u, h => by
    simp only [parseUintM] at h
    split at h
    · rename_i hc
      split at h
      · cases h
      · split at h
        · cases h
        · have ih := parseUintM_ok M r _ u h
          refine ⟨?_, ih.2⟩
          rw [List.all_cons, Bool.and_eq_true]
          exact ⟨(dig_iff c).2 hc, ih.1⟩
    · cases h

theorem ofNat_toNat48 (k : Nat) (h : k < 10) : (UInt8.ofNat (48 + k)).toNat = 48 + k := by
  rw [UInt8.toNat_ofNat']
  omega

theorem decDigits_ne (u : Nat) : decDigits u ≠ [] := by
  intro h
  have h1 := decDigits_length u
  have h2 := nDigits_pos u
  rw [h] at h1
  simp only [List.length_nil] at h1
  omega

theorem decDigits_digs (u : Nat) : (decDigits u).all dig = true := by
  induction u using Nat.strongRecOn with
  | _ u ih =>
    rw [decDigits]
    split
    · rename_i h
      rw [List.all_cons, Bool.and_eq_true]
      refine ⟨(dig_iff _).2 ?_, rfl⟩
      rw [ofNat_toNat48 _ h]; omega
    · rename_i h
      rw [List.all_append, Bool.and_eq_true, List.all_cons, Bool.and_eq_true]
      refine ⟨ih _ (by omega), (dig_iff _).2 ?_, rfl⟩
      rw [ofNat_toNat48 _ (by omega)]; omega

theorem valD_decDigits (u : Nat) : valD 0 (decDigits u) = u := by
  induction u using Nat.strongRecOn with
  | _ u ih =>
    rw [decDigits]
    split
    · rename_i h
      show 0 * 10 + ((UInt8.ofNat (48 + u)).toNat - 48) = u
      rw [ofNat_toNat48 _ h]; omega
    · rename_i h
      rw [valD_append, ih _ (by omega), ofNat_toNat48 _ (by omega)]
      omega

/-- The first digit is not 0, but of 0. -/
theorem decDigits_head (u : Nat) : (decDigits u).head? = some 48 → u = 0 := by
  induction u using Nat.strongRecOn with
  | _ u ih =>
    rw [decDigits]
    split
    · rename_i h
      intro he
      simp only [List.head?_cons, Option.some.injEq] at he
      have h2 := congrArg UInt8.toNat he
      rw [ofNat_toNat48 _ h] at h2
      have h3 : (48 : UInt8).toNat = 48 := rfl
      omega
    · rename_i h
      intro he
      have hne := decDigits_ne (u / 10)
      have ih2 := ih (u / 10) (by omega)
      cases hd : decDigits (u / 10) with
      | nil => exact absurd hd hne
      | cons c r =>
        rw [hd] at he ih2
        have := ih2 he
        omega

/-- As short as can be: digits, the first of them not 0, but of "0". -/
def shortD (l : List UInt8) : Bool := l.all dig && !l.isEmpty && (l.length == 1 || l.head? != some 48)

theorem valD_pos : ∀ (l : List UInt8) (acc : Nat), 1 ≤ acc → 1 ≤ valD acc l
  | [], _, h => h
  | c :: r, acc, h => valD_pos r _ (by omega)

theorem valD_short_pos {c : UInt8} {r : List UInt8} (hd : dig c = true) (h : c ≠ 48) : 1 ≤ valD 0 (c :: r) := by
  have hc := (dig_iff c).1 hd
  have h2 : c.toNat ≠ 48 := fun e => h (UInt8.toNat_inj.1 e)
  exact valD_pos r _ (by omega)

theorem snoc_cases : ∀ (l : List UInt8), l ≠ [] → ∃ i c, l = i ++ [c]
  | [], h => absurd rfl h
  | [c], _ => ⟨[], c, rfl⟩
  | c :: d :: r, _ => by
    have ⟨i, e, h⟩ := snoc_cases (d :: r) (by simp)
    exact ⟨c :: i, e, by rw [h]; rfl⟩

theorem decDigits_valD : ∀ (k : Nat) (l : List UInt8), l.length = k → shortD l = true → decDigits (valD 0 l) = l := by
  intro k
  induction k with
  | zero =>
    intro l hl hs
    have : l = [] := List.length_eq_zero_iff.1 hl
    subst this
    simp [shortD] at hs
  | succ k ih =>
    intro l hl hs
    simp only [shortD, Bool.and_eq_true, Bool.or_eq_true, beq_iff_eq, bne_iff_ne, Bool.not_eq_true'] at hs
    obtain ⟨⟨hd, _⟩, h1⟩ := hs
    obtain ⟨i, c, rfl⟩ := snoc_cases l (by intro h; rw [h] at hl; simp at hl)
    rw [List.all_append, Bool.and_eq_true, List.all_cons, Bool.and_eq_true] at hd
    obtain ⟨hdi, hdc, _⟩ := hd
    have hc := (dig_iff c).1 hdc
    rw [List.length_append] at hl
    simp only [List.length_cons, List.length_nil] at hl
    rw [valD_append]
    have hcc : UInt8.ofNat (48 + (c.toNat - 48)) = c := by
      apply UInt8.toNat_inj.1
      rw [ofNat_toNat48 _ (by omega)]; omega
    match i, hdi, h1, hl with
    | [], _, _, _ =>
      have e0 : valD 0 [] * 10 + (c.toNat - 48) = c.toNat - 48 := by
        have : valD 0 [] = 0 := rfl
        rw [this]; omega
      rw [e0, decDigits, dif_pos (by omega), hcc]
      rfl
    | d :: r, hdi, h1, hl =>
      have hne : d ≠ 48 := by
        rcases h1 with h1 | h1
        · simp at h1
        · intro e; subst e; simp at h1
      rw [List.all_cons, Bool.and_eq_true] at hdi
      have hp := valD_short_pos (r := r) hdi.1 hne
      rw [decDigits, dif_neg (by omega)]
      have e1 : (valD 0 (d :: r) * 10 + (c.toNat - 48)) / 10 = valD 0 (d :: r) := by omega
      have e2 : (valD 0 (d :: r) * 10 + (c.toNat - 48)) % 10 = c.toNat - 48 := by omega
      rw [e1, e2, hcc, ih (d :: r) (by omega) ?_]
      simp only [shortD, Bool.and_eq_true, Bool.or_eq_true, beq_iff_eq, bne_iff_ne, Bool.not_eq_true', List.isEmpty_cons, and_true, List.all_cons, List.head?_cons]
      refine ⟨⟨hdi.1, hdi.2⟩, Or.inr ?_⟩
      intro e; injection e with e; exact hne e

theorem shortD_decDigits (u : Nat) : shortD (decDigits u) = true := by
  simp only [shortD, Bool.and_eq_true, Bool.or_eq_true, beq_iff_eq, bne_iff_ne, Bool.not_eq_true']
  refine ⟨⟨decDigits_digs u, ?_⟩, ?_⟩
  · have := decDigits_ne u
    cases h : decDigits u with
    | nil => exact absurd h this
    | cons => rfl
  · by_cases h : (decDigits u).head? = some 48
    · left
      have := decDigits_head u h
      subst this
      rw [decDigits_length, nDigits_small (by omega)]
    · exact Or.inr h

/-- A number of 64 bits, as short as can be: the document's. -/
def longOf (l : List UInt8) : Option Int :=
  match parseIntB 64 l with
  | .ok v => if itoa v = l then some v else none
  | _ => none

theorem longOf_some {l : List UInt8} {v : Int} (h : longOf l = some v) : itoa v = l ∧ -9223372036854775808 ≤ v ∧ v ≤ 9223372036854775807 ∧ parseIntB 64 l = .ok v := by
  unfold longOf at h
  split at h
  · rename_i u hu
    split at h
    · rename_i he
      injection h with h
      subst h
      have hb := parseIntB_bounds hu
      refine ⟨he, ?_, ?_, hu⟩
      · have := hb.1; simpa using this
      · have := hb.2
        have h2 : ((2 ^ (64 - 1) : Nat) : Int) = 9223372036854775808 := by decide
        omega
    · cases h
  · cases h

/-- The number of a text: what it says, told by its bytes. -/
def longS (l : List UInt8) : Option Int :=
  match l with
  | [] => none
  | c :: r =>
    if c = 45 then (if shortD r && decide (1 ≤ valD 0 r) && decide (valD 0 r ≤ 9223372036854775808) then some (-(valD 0 r : Int)) else none)
    else (if shortD l && decide (valD 0 l ≤ 9223372036854775807) then some (valD 0 l : Int) else none)

theorem shortD_digs {l : List UInt8} (h : shortD l = true) : l.all dig = true ∧ l ≠ [] := by
  simp only [shortD, Bool.and_eq_true] at h
  refine ⟨h.1.1, ?_⟩
  intro e; subst e
  simp at h

theorem parseUintB_short {l : List UInt8} (h : shortD l = true) (hv : valD 0 l ≤ 18446744073709551615) : parseUintB 64 l = .ok (valD 0 l) := by
  unfold parseUintB
  have ⟨h1, h2⟩ := shortD_digs h
  rw [if_neg h2]
  exact parseUintM_digs _ (by decide) l 0 h1 (by omega)

theorem parseUintB_ok {l : List UInt8} {u : Nat} (h : parseUintB 64 l = .ok u) : l.all dig = true ∧ u = valD 0 l ∧ l ≠ [] := by
  unfold parseUintB at h
  split at h
  · cases h
  · rename_i hne
    have ⟨h1, h2⟩ := parseUintM_ok _ l 0 u h
    exact ⟨h1, h2, hne⟩

theorem dig_not_sign {c : UInt8} (h : dig c = true) : c.toNat ≠ 43 ∧ c.toNat ≠ 45 := by
  have := (dig_iff c).1 h
  omega

theorem longOf_itoa (v : Int) (h0 : -9223372036854775808 ≤ v) (h1 : v ≤ 9223372036854775807) : longOf (itoa v) = some v := by
  have key : parseIntB 64 (itoa v) = .ok v := by
    have e63 : (2 ^ (64 - 1) : Nat) = 9223372036854775808 := by decide
    by_cases hn : v < 0
    · have e : itoa v = 45 :: decDigits v.natAbs := by unfold itoa; rw [if_pos hn]
      rw [e, parseIntB_minus, parseUintB_short (shortD_decDigits _) (by rw [valD_decDigits]; omega), valD_decDigits]
      unfold signedC
      simp only [e63]
      rw [if_neg (by omega)]
      congr 1
      omega
    · have e : itoa v = decDigits v.toNat := by unfold itoa; rw [if_neg hn]
      have hs := shortD_decDigits v.toNat
      rw [e]
      have hv := valD_decDigits v.toNat
      cases hd : decDigits v.toNat with
      | nil => exact absurd hd (decDigits_ne _)
      | cons c r =>
        rw [hd] at hs hv
        have hdc := (shortD_digs hs).1
        rw [List.all_cons, Bool.and_eq_true] at hdc
        have ⟨h43, h45⟩ := dig_not_sign hdc.1
        rw [parseIntB_plain _ _ _ h43 h45, parseUintB_short hs (by omega), hv]
        unfold signlessC
        simp only [e63]
        rw [if_neg (by omega)]
        congr 1
        omega
  unfold longOf
  rw [key]
  simp

theorem longS_itoa (v : Int) (h0 : -9223372036854775808 ≤ v) (h1 : v ≤ 9223372036854775807) : longS (itoa v) = some v := by
  by_cases hn : v < 0
  · have e : itoa v = 45 :: decDigits v.natAbs := by unfold itoa; rw [if_pos hn]
    rw [e]
    unfold longS
    simp only [if_pos]
    rw [shortD_decDigits, valD_decDigits, if_pos (by simp only [Bool.true_and, Bool.and_eq_true, decide_eq_true_eq]; omega)]
    congr 1
    omega
  · have e : itoa v = decDigits v.toNat := by unfold itoa; rw [if_neg hn]
    have hs := shortD_decDigits v.toNat
    have hv := valD_decDigits v.toNat
    rw [e]
    cases hd : decDigits v.toNat with
    | nil => exact absurd hd (decDigits_ne _)
    | cons c r =>
      rw [hd] at hs hv
      have hdc := (shortD_digs hs).1
      rw [List.all_cons, Bool.and_eq_true] at hdc
      have ⟨h43, h45⟩ := dig_not_sign hdc.1
      unfold longS
      simp only
      rw [if_neg (by intro e; subst e; exact h45 rfl), hs, hv, if_pos (by simp only [Bool.true_and, decide_eq_true_eq]; omega)]
      congr 1
      omega

theorem longS_some {l : List UInt8} {v : Int} (h : longS l = some v) : itoa v = l ∧ -9223372036854775808 ≤ v ∧ v ≤ 9223372036854775807 := by
  unfold longS at h
  split at h
  · cases h
  · rename_i c r
    split at h
    · rename_i hc
      subst hc
      split at h
      · rename_i hs
        simp only [Bool.and_eq_true, decide_eq_true_eq] at hs
        injection h with h
        subst h
        refine ⟨?_, by omega, by omega⟩
        unfold itoa
        rw [if_pos (by omega)]
        have : (-(valD 0 r : Int)).natAbs = valD 0 r := by omega
        rw [this, decDigits_valD _ r rfl hs.1.1]
      · cases h
    · split at h
      · rename_i hs
        simp only [Bool.and_eq_true, decide_eq_true_eq] at hs
        injection h with h
        subst h
        refine ⟨?_, by omega, by omega⟩
        unfold itoa
        rw [if_neg (by omega)]
        have : ((valD 0 (c :: r) : Nat) : Int).toNat = valD 0 (c :: r) := by omega
        rw [this, decDigits_valD _ _ rfl hs.1]
      · cases h

/-- The two say the same. -/
theorem longOf_eq (l : List UInt8) : longOf l = longS l := by
  cases h : longOf l with
  | some v =>
    have ⟨h1, h2, h3, _⟩ := longOf_some h
    rw [← h1, longS_itoa v h2 h3]
  | none =>
    cases h2 : longS l with
    | none => rfl
    | some v =>
      have ⟨h4, h5, h6⟩ := longS_some h2
      rw [← h4, longOf_itoa v h5 h6] at h
      cases h

end E
end Go.Proofs.YtbojicehfbeepadDoor

/- Plain mathematics of tokens, second part: the tokens of a text, and that the texts of tokens with blanks between are the same tokens again. -/
namespace Go.Proofs.YtbojicehfbeepadDoor
set_option maxRecDepth 20000
set_option maxHeartbeats 4000000
namespace E

open Go.Lib

structure Tok where
  pos : Nat
  text : List UInt8
  num : Bool
  val : Int

def blankB (c : UInt8) : Bool := c == 32 || c == 9 || c == 10 || c == 13
def parenB (c : UInt8) : Bool := c == 40 || c == 41
def letB (c : UInt8) : Bool := decide (97 ≤ c.toNat) && decide (c.toNat ≤ 122)

/-- What begins at a byte: nothing, a blank, or a token. -/
inductive Bit where
  | bad
  | skip
  | tok (text : List UInt8) (num : Bool) (val : Int)

def bit (c : UInt8) (r : List UInt8) : Bit :=
  if blankB c then .skip
  else if parenB c then .tok [c] false 0
  else if letB c then .tok (c :: r.takeWhile letB) false 0
  else if dig c || c == 45 then
    (match longOf (c :: r.takeWhile dig) with
     | some v => .tok (c :: r.takeWhile dig) true v
     | none => .bad)
  else .bad

/-- The tokens of what stands from pos on, or the place of what is none. -/
def toks : Nat → Nat → List UInt8 → Except Nat (List Tok)
  | _, _, [] => .ok []
  | 0, pos, _ :: _ => .error pos
  | f + 1, pos, c :: r =>
    match bit c r with
    | .bad => .error pos
    | .skip => toks f (pos + 1) r
    | .tok t b v =>
      match toks f (pos + t.length) ((c :: r).drop t.length) with
      | .error e => .error e
      | .ok l => .ok (⟨pos, t, b, v⟩ :: l)

def scanOf (l : List UInt8) : Except Nat (List Tok) := toks l.length 0 l

/-- A token's text is what stands there. -/
theorem bit_tok {c : UInt8} {r : List UInt8} {t : List UInt8} {b : Bool} {v : Int} (h : bit c r = .tok t b v) : ∃ u q, t = c :: u ∧ r = u ++ q ∧ blankB c = false := by
  unfold bit at h
  split at h
  · cases h
  rename_i hb
  have hb : blankB c = false := by simpa using hb
  split at h
  · injection h with h1 h2 h3
    exact ⟨[], r, h1.symm, rfl, hb⟩
  split at h
  · injection h with h1 h2 h3
    exact ⟨_, _, h1.symm, (List.takeWhile_append_dropWhile (p := letB) (l := r)).symm, hb⟩
  split at h
  · split at h
    · injection h with h1 h2 h3
      exact ⟨_, _, h1.symm, (List.takeWhile_append_dropWhile (p := dig) (l := r)).symm, hb⟩
    · cases h
  · cases h

theorem takeWhile_again (p : UInt8 → Bool) (x : UInt8) (hx : p x = false) (q : List UInt8) : ∀ (r : List UInt8), (r.takeWhile p ++ x :: q).takeWhile p = r.takeWhile p
  | [] => by simp [hx]
  | c :: r => by
    by_cases hc : p c = true
    · rw [List.takeWhile_cons_of_pos hc, List.cons_append, List.takeWhile_cons_of_pos hc, takeWhile_again p x hx q r]
    · rw [List.takeWhile_cons_of_neg hc, List.nil_append, List.takeWhile_cons_of_neg (by rw [hx]; decide)]

/-- The same token again, where a blank is behind it. -/
theorem bit_again {c : UInt8} {r u : List UInt8} {b : Bool} {v : Int} (h : bit c r = .tok (c :: u) b v) (q : List UInt8) : bit c (u ++ 32 :: q) = .tok (c :: u) b v := by
  unfold bit at h
  unfold bit
  split at h
  · cases h
  rename_i hb
  rw [if_neg hb]
  split at h
  · rename_i hp
    rw [if_pos hp]
    exact h
  rename_i hp
  rw [if_neg hp]
  split at h
  · rename_i hl
    injection h with h1 h2 h3
    injection h1 with h0 h1
    subst h1; subst h2; subst h3
    rw [if_pos hl, takeWhile_again letB 32 (by decide)]
  rename_i hl
  rw [if_neg hl]
  split at h
  · rename_i hd
    rw [if_pos hd]
    split at h
    · rename_i w hw
      injection h with h1 h2 h3
      injection h1 with h0 h1
      subst h1; subst h2; subst h3
      rw [takeWhile_again dig 32 (by decide), hw]
    · cases h
  · cases h

/-- More fuel than bytes: all the same. -/
theorem toks_fuel : ∀ (f g pos : Nat) (l : List UInt8), l.length ≤ f → l.length ≤ g → toks f pos l = toks g pos l
  | 0, 0, _, _, _, _ => rfl
  | 0, g + 1, _, [], _, _ => rfl
  | 0, g + 1, _, _ :: _, h, _ => by simp at h
  | f + 1, 0, _, [], _, _ => rfl
  | f + 1, 0, _, _ :: _, _, h => by simp at h
  | f + 1, g + 1, _, [], _, _ => rfl
  | f + 1, g + 1, pos, c :: r, hf, hg => by
    simp only [List.length_cons] at hf hg
    simp only [toks]
    cases hb : bit c r with
    | bad => rfl
    | skip => exact toks_fuel f g _ r (by omega) (by omega)
    | tok t b v =>
      have ⟨u, q, h1, h2, _⟩ := bit_tok hb
      subst h1
      have hl : ((c :: r).drop (c :: u).length).length ≤ r.length := by
        rw [List.length_drop]
        simp only [List.length_cons]
        omega
      simp only [toks_fuel f g (pos + (c :: u).length) ((c :: r).drop (c :: u).length) (by omega) (by omega)]

/-- One step of a scan. -/
theorem toks_bad {f pos : Nat} {c : UInt8} {r : List UInt8} (h : bit c r = .bad) (hf : (c :: r).length ≤ f) : toks f pos (c :: r) = .error pos := by
  cases f with
  | zero => rfl
  | succ f => simp only [toks, h]
theorem toks_skip {f pos : Nat} {c : UInt8} {r : List UInt8} (h : bit c r = .skip) (hf : (c :: r).length ≤ f) : toks f pos (c :: r) = toks f (pos + 1) r := by
  cases f with
  | zero => simp at hf
  | succ f =>
    simp only [List.length_cons] at hf
    simp only [toks, h]
    exact toks_fuel _ _ _ _ (by omega) (by omega)
theorem toks_tok {f pos : Nat} {c : UInt8} {r t : List UInt8} {b : Bool} {v : Int} (h : bit c r = .tok t b v) (hf : (c :: r).length ≤ f) :
    toks f pos (c :: r) = (match toks f (pos + t.length) ((c :: r).drop t.length) with | .error e => .error e | .ok l => .ok (⟨pos, t, b, v⟩ :: l)) := by
  cases f with
  | zero => simp at hf
  | succ f =>
    simp only [List.length_cons] at hf
    have ⟨u, q, h1, h2, _⟩ := bit_tok h
    subst h1
    have hl : ((c :: r).drop (c :: u).length).length ≤ r.length := by
      rw [List.length_drop]
      simp only [List.length_cons]
      omega
    have e := toks_fuel f (f + 1) (pos + (c :: u).length) ((c :: r).drop (c :: u).length) (by omega) (by omega)
    rw [← e]
    simp only [toks, h]

/-- What is behind what has been read. -/
def putT (acc : List Tok) : Except Nat (List Tok) → Except Nat (List Tok)
  | .error e => .error e
  | .ok l => .ok (acc ++ l)
theorem putT_nil (x : Except Nat (List Tok)) : putT [] x = x := by cases x <;> rfl
theorem putT_tok {f pos : Nat} {c : UInt8} {r t : List UInt8} {b : Bool} {v : Int} (acc : List Tok) (h : bit c r = .tok t b v) (hf : (c :: r).length ≤ f) :
    putT acc (toks f pos (c :: r)) = putT (acc ++ [⟨pos, t, b, v⟩]) (toks f (pos + t.length) ((c :: r).drop t.length)) := by
  rw [toks_tok h hf]
  cases toks f (pos + t.length) ((c :: r).drop t.length) with
  | error e => rfl
  | ok l => simp [putT]

/-! ### There and back -/

def joined : List Tok → List UInt8
  | [] => []
  | t :: r => t.text ++ 32 :: 10 :: joined r

/-- Tokens that come of a scan. -/
def fine : List Tok → Prop
  | [] => True
  | t :: r => (∃ c u r0, t.text = c :: u ∧ bit c r0 = .tok (c :: u) t.num t.val) ∧ fine r

def textLen : List Tok → Nat
  | [] => 0
  | t :: r => t.text.length + textLen r

theorem toks_fine : ∀ (f pos : Nat) (l : List UInt8) (ts : List Tok), toks f pos l = .ok ts → fine ts ∧ textLen ts ≤ l.length
  | f, pos, [], ts, h => by
    have h2 : ts = [] := by
      cases f <;> (simp only [toks] at h; injection h with h; exact h.symm)
    subst h2
    exact ⟨trivial, Nat.zero_le _⟩
  | 0, _, _ :: _, _, h => by simp only [toks] at h; cases h
  | f + 1, pos, c :: r, ts, h => by
    simp only [toks] at h
    cases hb : bit c r with
    | bad => rw [hb] at h; cases h
    | skip =>
      rw [hb] at h
      have ⟨h1, h2⟩ := toks_fine f _ r ts h
      exact ⟨h1, by simp only [List.length_cons]; omega⟩
    | tok t b v =>
      rw [hb] at h
      simp only at h
      cases hr : toks f (pos + t.length) ((c :: r).drop t.length) with
      | error e => rw [hr] at h; cases h
      | ok l =>
        rw [hr] at h
        injection h with h
        subst h
        have ⟨h1, h2⟩ := toks_fine f _ _ l hr
        have ⟨u, q, h3, h4, _⟩ := bit_tok hb
        subst h3
        refine ⟨⟨⟨c, u, r, rfl, hb⟩, h1⟩, ?_⟩
        rw [List.length_drop] at h2
        have h5 : (c :: u).length ≤ (c :: r).length := by
          rw [h4]; simp only [List.length_cons, List.length_append]; omega
        show (c :: u).length + textLen l ≤ (c :: r).length
        omega

theorem joined_length : ∀ (ts : List Tok), fine ts → (joined ts).length ≤ 3 * textLen ts
  | [], _ => Nat.le_refl _
  | t :: r, h => by
    have ih := joined_length r h.2
    obtain ⟨c, u, r0, h1, _⟩ := h.1
    simp only [joined, textLen, List.length_append, List.length_cons, h1]
    omega

/-- What is told of a token but its place. -/
def same3 : List Tok → List Tok → Prop
  | [], [] => True
  | a :: r, b :: s => a.text = b.text ∧ a.num = b.num ∧ a.val = b.val ∧ same3 r s
  | _, _ => False

theorem bit_blank (c : UInt8) (r : List UInt8) (h : blankB c = true) : bit c r = .skip := by
  unfold bit; rw [if_pos h]

theorem toks_back : ∀ (ts : List Tok) (f pos : Nat), fine ts → (joined ts).length ≤ f → ∃ us, toks f pos (joined ts) = .ok us ∧ same3 us ts
  | [], f, pos, _, _ => ⟨[], by cases f <;> rfl, trivial⟩
  | t :: r, f, pos, h, hf => by
    obtain ⟨⟨c, u, r0, h1, h2⟩, h3⟩ := h
    have hj : joined (t :: r) = c :: (u ++ 32 :: 10 :: joined r) := by
      simp only [joined, h1, List.cons_append]
    have hb := bit_again h2 (10 :: joined r)
    rw [hj] at hf ⊢
    simp only [List.length_cons, List.length_append] at hf
    obtain ⟨us, h4, h5⟩ := toks_back r f (pos + (c :: u).length + 1 + 1) h3 (by omega)
    refine ⟨⟨pos, c :: u, t.num, t.val⟩ :: us, ?_, h1.symm, rfl, rfl, h5⟩
    rw [toks_tok hb (by simp only [List.length_cons, List.length_append]; omega)]
    have hd : (c :: (u ++ 32 :: 10 :: joined r)).drop (c :: u).length = 32 :: 10 :: joined r := by
      simp
    rw [hd, toks_skip (bit_blank 32 _ (by decide)) (by simp only [List.length_cons]; omega), toks_skip (bit_blank 10 _ (by decide)) (by simp only [List.length_cons]; omega), h4]

/-- THERE AND BACK. -/
theorem scan_back {l : List UInt8} {ts : List Tok} (h : scanOf l = .ok ts) : ∃ us, scanOf (joined ts) = .ok us ∧ same3 us ts ∧ (joined ts).length ≤ 3 * l.length := by
  have ⟨h1, h2⟩ := toks_fine _ _ _ _ h
  have ⟨us, h3, h4⟩ := toks_back ts (joined ts).length 0 h1 (Nat.le_refl _)
  have h5 := joined_length ts h1
  exact ⟨us, h3, h4, by omega⟩

theorem same3_length : ∀ (a b : List Tok), same3 a b → a.length = b.length
  | [], [], _ => rfl
  | _ :: r, _ :: s, h => by simp only [List.length_cons, same3_length r s h.2.2.2]

theorem same3_get : ∀ (a b : List Tok), same3 a b → ∀ (i : Nat) (ha : i < a.length) (hb : i < b.length), a[i].text = b[i].text ∧ a[i].num = b[i].num ∧ a[i].val = b[i].val
  | _ :: _, _ :: _, h, 0, _, _ => ⟨h.1, h.2.1, h.2.2.1⟩
  | _ :: r, _ :: s, h, i + 1, ha, hb => same3_get r s h.2.2.2 i (by simpa using ha) (by simpa using hb)

end E
end Go.Proofs.YtbojicehfbeepadDoor

/- What the proofs of package token know of the program; texts and tokens as cells; contracts of the looks at one byte, and of run. -/
namespace Go.Proofs.YtbojicehfbeepadDoor
set_option maxRecDepth 20000
set_option maxHeartbeats 4000000
namespace E
open Go.Proofs


/-! ### One byte -/
theorem beqU (c d : UInt8) : (c == d) = decide (c.toNat = d.toNat) := by
  rw [Bool.eq_iff_iff]
  simp [← UInt8.toNat_inj]
theorem blank_n (c : UInt8) : blankB c = (decide (c.toNat = 32) || decide (c.toNat = 9) || decide (c.toNat = 10) || decide (c.toNat = 13)) := by
  unfold blankB
  simp only [beqU]
  rfl
theorem paren_n (c : UInt8) : parenB c = (decide (c.toNat = 40) || decide (c.toNat = 41)) := by
  unfold parenB
  simp only [beqU]
  rfl
theorem dash_n (c : UInt8) : (c == 45) = decide (c.toNat = 45) := beqU c 45

/-! ### A run of bytes -/
theorem take_step {p : UInt8 → Bool} {l : List UInt8} {i : Nat} (hi : i < l.length) : (l.drop i).takeWhile p = if p l[i] = true then l[i] :: (l.drop (i + 1)).takeWhile p else [] := by
  rw [List.drop_eq_getElem_cons hi]
  split
  · rename_i h; rw [List.takeWhile_cons_of_pos h]
  · rename_i h; rw [List.takeWhile_cons_of_neg h]

end E
end Go.Proofs.YtbojicehfbeepadDoor

/- A table of texts at package level: what the row's condition gives. -/
namespace Go.Proofs.YtbojicehfbeepadDoor
set_option maxRecDepth 20000
set_option maxHeartbeats 4000000
namespace E
open Go.Lib

def strData {H : Type} (zs : List (List UInt8)) : DataW H := .agg (zs.map fun z => .lit (.string z))
def StrIs (P : Program) (w : World) (name : String) (zs : List (List UInt8)) : Prop := w.var? P name = some (zs.map fun z => Value.string (str z)).toArray

theorem cells_of_strs {H : Type} {enc : TypeId × Value → H} {P : Program} {w : World} {base : Nat} {sp : Nat → Bool} {held : Bool} {fuel : Nat} {t e : TypeId} {n : Nat} {cs : List Value} {zs : List (List UInt8)} {p : List MemPlace}
    (ht : P.underlying t = some (.array n e)) (he : P.underlying e = some .string) (hce : P.cellsOf e = 1) (hct : P.cellsOf t = n)
    (h : DataW.trod enc P w base sp held fuel t cs = some (strData zs, p)) : cs = zs.map fun z => Value.string (str z) := by
  cases fuel with
  | zero => simp [DataW.trod] at h
  | succ fuel =>
    simp only [DataW.trod, ht, hce, hct, Nat.mul_one] at h
    split at h
    · rename_i hl
      obtain ⟨xs, hm, hx⟩ := Option.map_eq_some_iff.1 h
      have hxs : xs.map (·.1) = zs.map fun z => (DataW.lit (.string z) : DataW H) := by
        have := congrArg Prod.fst hx
        simpa [strData] using this
      have hxl : xs.length = n := by simpa using mapM_length hm
      have hzl : zs.length = n := by
        have := congrArg List.length hxs
        simp at this
        omega
      apply List.ext_getElem?
      intro i
      by_cases hi : i < n
      · obtain ⟨b, hb, hf⟩ := mapM_at hm i i (by simp [hi])
        obtain ⟨s, hc, hbe, _⟩ := DataW.trod_string he hf
        have h1 : cs[i]? = some (.string s) := by
          have := congrArg (·[0]?) hc
          simpa [List.getElem?_take, List.getElem?_drop] using this
        have h2 : (xs.map (·.1))[i]? = some (DataW.lit (.string s.data.toList) : DataW H) := by simp [hb, hbe]
        rw [hxs] at h2
        simp only [List.getElem?_map, Option.map_eq_some_iff, DataW.lit.injEq, Lit.string.injEq] at h2
        obtain ⟨z', hz', he'⟩ := h2
        rw [h1, List.getElem?_map, hz', he', Option.map_some, str_data]
      · rw [List.getElem?_eq_none (by omega), List.getElem?_eq_none (by simp; omega)]
    · cases h

theorem strIs_of_head {P : Program} {W : World} {name : String} {zs : List (List UInt8)} {rest : List (String × DataW Unit)} {g : Nat} {t e : TypeId} {n : Nat}
    (hg : P.globalNamed name = some g) (hty : (P.globals[g]?).map (·.type) = some t) (ht : P.underlying t = some (.array n e)) (he : P.underlying e = some .string) (hce : P.cellsOf e = 1) (hct : P.cellsOf t = n)
    (h : laidMet P ((name, strData zs) :: rest) W) : StrIs P W name zs := by
  obtain ⟨ps, ⟨g', t', cs, fuel, p, q, hg', ht', hvar, hd, _, _⟩, _⟩ := h
  obtain rfl := Option.some.inj (hg.symm.trans hg')
  obtain rfl := Option.some.inj (hty.symm.trans ht')
  unfold StrIs
  rw [hvar, ← cells_of_strs ht he hce hct hd]
theorem StrIs.cell {P : Program} {W : World} {name : String} {zs : List (List UInt8)} {g : Nat} (h : StrIs P W name zs) (hg : P.globalNamed name = some g) (i : Nat) (z : List UInt8) (hi : zs[i]? = some z) :
    W.cell? ⟨g, i, none⟩ = some (.string (str z)) := by
  have := World.var?_cell hg h i
  rw [this]
  simp [hi]
/-- The two tables of package parse. -/
def wordsL : List (List UInt8) := [[], [110, 117, 109], [118, 97, 114], [103, 101, 116], [97, 100, 100], [115, 117, 98], [109, 117, 108], [108, 101, 115, 115], [115, 97, 109, 101]]
def verbsL : List (List UInt8) := [[], [115, 101, 116], [112, 117, 116], [112, 114, 105, 110, 116], [114, 101, 97, 100], [119, 104, 105, 108, 101], [105, 102], [99, 111, 109, 109, 105, 116]]
end E
end Go.Proofs.YtbojicehfbeepadDoor

/- strconv's contracts at this program; contracts of word, number, first, and of the document's LongOf. -/
namespace Go.Proofs.YtbojicehfbeepadDoor
set_option maxRecDepth 20000
set_option maxHeartbeats 4000000
namespace E
open Go.Proofs

/-! ### The library's variables -/
/-- What printing takes: the table of strconv, and the two of package parse. -/
structure Lt (w : World) : Prop where
  tab : Lib.TabIs Tryd.prog w "internal/strconv.uint64pow10" .u64 Lib.pow10Tab
  wrd : StrIs Tryd.prog w "overwinter/parse.words" wordsL
  vrb : StrIs Tryd.prog w "overwinter/parse.verbs" verbsL
/-- What reading takes. -/
structure Lw (w : World) : Prop where
  lt : Lt w
  syn : ∃ tp p, w.var? Tryd.prog "strconv.ErrSyntax" = some #[.iface tp p]
  ran : ∃ tp p, w.var? Tryd.prog "strconv.ErrRange" = some #[.iface tp p]

theorem var_keep {P : Program} {w w' : World} {n : String} {cs : Array Value} (h : w.var? P n = some cs) (hk : Keep [] w w') : w'.var? P n = some cs := by
  unfold World.var? at h ⊢
  cases hg : P.globalNamed n with
  | none => simp [hg] at h
  | some g =>
    simp only [hg, Option.bind_some] at h ⊢
    have hlt : g < w.heap.size := by
      rcases Nat.lt_or_ge g w.heap.size with h' | h'
      · exact h'
      · simp [Array.getElem?_eq_none h'] at h
    rw [hk.block g hlt (by simp)]
    exact h
theorem Lt.keep {w w' : World} (h : Lt w) (hk : Keep [] w w') : Lt w' where
  tab := var_keep h.tab hk
  wrd := var_keep h.wrd hk
  vrb := var_keep h.vrb hk
theorem Lw.keep {w w' : World} (h : Lw w) (hk : Keep [] w w') : Lw w' where
  lt := h.lt.keep hk
  syn := let ⟨tp, p, hv⟩ := h.syn; ⟨tp, p, var_keep hv hk⟩
  ran := let ⟨tp, p, hv⟩ := h.ran; ⟨tp, p, var_keep hv hk⟩

theorem keep_below {w w' : World} (h : Go.RowKit.Below w.heap.size w w') : Keep [] w w' := ⟨h.os, h.tape, h.output, h.size, fun k hk _ => h.block k hk⟩
theorem keep_grow (w : World) (k : Nat) (os : Array Obj) : Keep [] w (Go.Sort.grow (w.drewN k) os) :=
  ⟨rfl, rfl, rfl, by simp [Go.Sort.grow, World.drewN], fun j hj _ => by simp only [Go.Sort.grow, World.drewN]; rw [Array.getElem?_append_left hj]⟩

/-! ### strconv -/
def piN (l : List UInt8) : Int :=
  match Lib.parseIntB 64 l with
  | .ok v => v
  | .«syntax» => 0
  | .range => Lib.intSat 64 l
def piOk (l : List UInt8) : Bool :=
  match Lib.parseIntB 64 l with
  | .ok _ => true
  | _ => false
theorem piN_bounds (l : List UInt8) : -9223372036854775808 ≤ piN l ∧ piN l ≤ 9223372036854775807 := by
  have e63 : ((2 ^ (64 - 1) : Nat) : Int) = 9223372036854775808 := by decide
  unfold piN
  split
  · rename_i v hv
    have hb := Lib.parseIntB_bounds hv
    exact ⟨by have := hb.1; omega, by have := hb.2; omega⟩
  · omega
  · unfold Lib.intSat
    split <;> omega
theorem longOf_pi (l : List UInt8) : longOf l = if piOk l && (Lib.itoa (piN l) == l) then some (piN l) else none := by
  unfold longOf piOk piN
  cases h : Lib.parseIntB 64 l with
  | ok v => simp
  | «syntax» => simp
  | range => simp

theorem formatInt_ret (v : Int) (h0 : -9223372036854775808 ≤ v) (h1 : v ≤ 9223372036854775807) {w : World} (hw : Lt w) : Ret Tryd.prog 59 [.int .i64 v, .int .i64 10] w fun r w' => r = .string (str (Lib.itoa v)) ∧ Keep [] w w' := by
  refine Calls.mono (Any.strconv_FormatInt_10 Tryd.laysM173 v h0 h1 w hw.tab) ?_
  rintro e w' ⟨rfl, k, os, rfl⟩
  exact ⟨_, rfl, rfl, keep_grow _ _ _⟩

/-! ### Tokens as cells -/
def tokC (pos : Int) (l : List UInt8) (b : Bool) (v : Int) : List Value := [.int .i64 pos, .string (str l), .bool b, .int .i64 v]
def tokL (t : Tok) : List Value := tokC (t.pos : Nat) t.text t.num t.val
theorem tokC_one (pos : Int) (l : List UInt8) (b : Bool) (v : Int) : ∀ u ∈ tokC pos l b v, u.oneCell' = true := by
  intro u hu
  simp only [tokC, List.mem_cons, List.not_mem_nil, or_false] at hu
  rcases hu with rfl | rfl | rfl | rfl <;> rfl
theorem tokL_length (t : Tok) : (tokL t).length = 4 := rfl

/-- What number and first tell. -/
def bitV : Bit → Value
  | .tok t b v => .tuple #[.agg (tokC 0 t b v).toArray, .bool true]
  | _ => .tuple #[.agg (tokC 0 [] false 0).toArray, .bool false]
def numV (l : List UInt8) : Value :=
  match longOf l with
  | some v => .tuple #[.agg (tokC 0 l true v).toArray, .bool true]
  | none => .tuple #[.agg (tokC 0 [] false 0).toArray, .bool false]
theorem numV_yes {l : List UInt8} (h : piOk l = true) (h2 : (Lib.itoa (piN l) == l) = true) : numV l = .tuple #[.agg (tokC 0 l true (piN l)).toArray, .bool true] := by
  unfold numV
  rw [longOf_pi, h, h2]
  rfl
theorem numV_no {l : List UInt8} (h : (piOk l && (Lib.itoa (piN l) == l)) = false) : numV l = .tuple #[.agg (tokC 0 [] false 0).toArray, .bool false] := by
  unfold numV
  rw [longOf_pi, h]
  rfl

end E
end Go.Proofs.YtbojicehfbeepadDoor

/- Trees of expressions and of statements, as they lie in memory. -/
namespace Go.Proofs.YtbojicehfbeepadDoor
set_option maxRecDepth 20000
set_option maxHeartbeats 4000000
namespace E

inductive ET where
  | mk (op v n : Int) (l : List ET)
inductive ST where
  | mk (op v : Int) (e f : ET) (b o : List ST)

/-- A slice's elements, k cells each, in blocks of F. -/
def RowAt (F : Nat → Prop) (w : World) (k : Nat) (a : Option Addr) (len : Nat) (cc : Nat → List Value) : Prop :=
  0 < len → ∃ b q, a = some ⟨b, q, none⟩ ∧ F b ∧ ∀ i, i < len → w.rangeAt b (q + i * k) (cc i)

/-- The cells cs are the expression; what it leads to lies in blocks of F. -/
inductive ExprV (F : Nat → Prop) (w : World) : List Value → ET → Prop
  | mk {op v n : Int} {l : List ET} {a : Option Addr} {cap : Nat} (cc : Nat → List Value) (hr : RowAt F w 4 a l.length cc) (hc : ∀ i (h : i < l.length), ExprV F w (cc i) (l[i]'h)) :
      ExprV F w [.int .i64 op, .int .i64 v, .int .i64 n, .slice a l.length cap] (.mk op v n l)

inductive StmtV (F : Nat → Prop) (w : World) : List Value → ST → Prop
  | mk {op v : Int} {e f : ET} {ce cf : List Value} {b o : List ST} {ab ao : Option Addr} {capb capo : Nat} (cb co : Nat → List Value) (he : ExprV F w ce e) (hf : ExprV F w cf f)
      (hb : RowAt F w 12 ab b.length cb) (hcb : ∀ i (h : i < b.length), StmtV F w (cb i) (b[i]'h))
      (ho : RowAt F w 12 ao o.length co) (hco : ∀ i (h : i < o.length), StmtV F w (co i) (o[i]'h)) :
      StmtV F w ([.int .i64 op, .int .i64 v] ++ ce ++ cf ++ [.slice ab b.length capb, .slice ao o.length capo]) (.mk op v e f b o)

/-- A slice of statements. -/
def StmtsV (F : Nat → Prop) (w : World) (v : Value) (l : List ST) : Prop :=
  ∃ a cap cc, v = .slice a l.length cap ∧ RowAt F w 12 a l.length cc ∧ ∀ i (h : i < l.length), StmtV F w (cc i) (l[i]'h)
/-- A slice of expressions. -/
def ExprsV (F : Nat → Prop) (w : World) (v : Value) (l : List ET) : Prop :=
  ∃ a cap cc, v = .slice a l.length cap ∧ RowAt F w 4 a l.length cc ∧ ∀ i (h : i < l.length), ExprV F w (cc i) (l[i]'h)

section
variable {F F' : Nat → Prop} {w w' : World} {cs : List Value}

theorem ExprV.length {t : ET} (h : ExprV F w cs t) : cs.length = 4 := by cases h; rfl
theorem ExprV.one {t : ET} (h : ExprV F w cs t) : ∀ u ∈ cs, u.oneCell' = true := by
  cases h
  intro u hu
  simp at hu
  rcases hu with rfl | rfl | rfl | rfl <;> rfl
theorem StmtV.length {t : ST} (h : StmtV F w cs t) : cs.length = 12 := by
  cases h with
  | mk cb co he hf => simp [he.length, hf.length]
theorem StmtV.one {t : ST} (h : StmtV F w cs t) : ∀ u ∈ cs, u.oneCell' = true := by
  cases h with
  | mk cb co he hf =>
    intro u hu
    simp only [List.mem_append, List.mem_cons, List.not_mem_nil, or_false] at hu
    rcases hu with (((rfl | rfl) | hu) | hu) | (rfl | rfl)
    · rfl
    · rfl
    · exact he.one u hu
    · exact hf.one u hu
    · rfl
    · rfl

/-- What F allows stays: it is there, and it is not touched. -/
def Stays (F : Nat → Prop) (w : World) (fp : List Nat) : Prop := ∀ k, F k → k < w.heap.size ∧ k ∉ fp

theorem RowAt.keep {k : Nat} {a : Option Addr} {len : Nat} {cc : Nat → List Value} {fp : List Nat} (h : RowAt F w k a len cc) (hk : Keep fp w w') (hs : Stays F w fp) : RowAt F w' k a len cc := fun h0 => by
  obtain ⟨b, q, ha, hF, hr⟩ := h h0
  refine ⟨b, q, ha, hF, fun i hi j v hv => ?_⟩
  rw [World.cell?_of_block (w := w) (hk.block b (hs b hF).1 (hs b hF).2)]
  exact hr i hi j v hv
theorem RowAt.mono {k : Nat} {a : Option Addr} {len : Nat} {cc : Nat → List Value} (h : RowAt F w k a len cc) (hF : ∀ b, F b → F' b) : RowAt F' w k a len cc := fun h0 => by
  obtain ⟨b, q, ha, hb, hr⟩ := h h0
  exact ⟨b, q, ha, hF b hb, hr⟩
theorem ExprV.keep {t : ET} {fp : List Nat} (h : ExprV F w cs t) (hk : Keep fp w w') (hs : Stays F w fp) : ExprV F w' cs t := by
  induction h with
  | mk cc hr _ ih => exact .mk cc (hr.keep hk hs) ih
theorem ExprV.mono {t : ET} (h : ExprV F w cs t) (hF : ∀ b, F b → F' b) : ExprV F' w cs t := by
  induction h with
  | mk cc hr _ ih => exact .mk cc (hr.mono hF) ih
theorem StmtV.keep {t : ST} {fp : List Nat} (h : StmtV F w cs t) (hk : Keep fp w w') (hs : Stays F w fp) : StmtV F w' cs t := by
  induction h with
  | mk cb co he hf hb _ ho _ ihb iho => exact .mk cb co (he.keep hk hs) (hf.keep hk hs) (hb.keep hk hs) ihb (ho.keep hk hs) iho
theorem StmtV.mono {t : ST} (h : StmtV F w cs t) (hF : ∀ b, F b → F' b) : StmtV F' w cs t := by
  induction h with
  | mk cb co he hf hb _ ho _ ihb iho => exact .mk cb co (he.mono hF) (hf.mono hF) (hb.mono hF) ihb (ho.mono hF) iho
theorem StmtsV.keep {v : Value} {l : List ST} {fp : List Nat} (h : StmtsV F w v l) (hk : Keep fp w w') (hs : Stays F w fp) : StmtsV F w' v l := by
  obtain ⟨a, cap, cc, hv, hr, hc⟩ := h
  exact ⟨a, cap, cc, hv, hr.keep hk hs, fun i hi => (hc i hi).keep hk hs⟩
theorem StmtsV.mono {v : Value} {l : List ST} (h : StmtsV F w v l) (hF : ∀ b, F b → F' b) : StmtsV F' w v l := by
  obtain ⟨a, cap, cc, hv, hr, hc⟩ := h
  exact ⟨a, cap, cc, hv, hr.mono hF, fun i hi => (hc i hi).mono hF⟩
theorem ExprsV.keep {v : Value} {l : List ET} {fp : List Nat} (h : ExprsV F w v l) (hk : Keep fp w w') (hs : Stays F w fp) : ExprsV F w' v l := by
  obtain ⟨a, cap, cc, hv, hr, hc⟩ := h
  exact ⟨a, cap, cc, hv, hr.keep hk hs, fun i hi => (hc i hi).keep hk hs⟩
theorem ExprsV.mono {v : Value} {l : List ET} (h : ExprsV F w v l) (hF : ∀ b, F b → F' b) : ExprsV F' w v l := by
  obtain ⟨a, cap, cc, hv, hr, hc⟩ := h
  exact ⟨a, cap, cc, hv, hr.mono hF, fun i hi => (hc i hi).mono hF⟩

/-- One of a slice of statements. -/
theorem StmtsV.at {v : Value} {l : List ST} (h : StmtsV F w v l) {i : Nat} {t : ST} (ht : l[i]? = some t) : ∃ b q cap ci, v = .slice (some ⟨b, q, none⟩) l.length cap ∧ F b ∧ w.rangeAt b (q + i * 12) ci ∧ StmtV F w ci t := by
  obtain ⟨a, cap, cc, hv, hr, hc⟩ := h
  obtain ⟨hlt, e⟩ := List.getElem?_eq_some_iff.1 ht
  obtain ⟨b, q, ha, hF, hra⟩ := hr (by omega)
  exact ⟨b, q, cap, cc i, by rw [hv, ha], hF, hra i hlt, by rw [← e]; exact hc i hlt⟩
theorem ExprsV.at {v : Value} {l : List ET} (h : ExprsV F w v l) {i : Nat} {t : ET} (ht : l[i]? = some t) : ∃ b q cap ci, v = .slice (some ⟨b, q, none⟩) l.length cap ∧ F b ∧ w.rangeAt b (q + i * 4) ci ∧ ExprV F w ci t := by
  obtain ⟨a, cap, cc, hv, hr, hc⟩ := h
  obtain ⟨hlt, e⟩ := List.getElem?_eq_some_iff.1 ht
  obtain ⟨b, q, ha, hF, hra⟩ := hr (by omega)
  exact ⟨b, q, cap, cc i, by rw [hv, ha], hF, hra i hlt, by rw [← e]; exact hc i hlt⟩
theorem StmtsV.form {v : Value} {l : List ST} (h : StmtsV F w v l) : ∃ a cap, v = .slice a l.length cap := by
  obtain ⟨a, cap, _, hv, _⟩ := h
  exact ⟨a, cap, hv⟩
theorem ExprsV.form {v : Value} {l : List ET} (h : ExprsV F w v l) : ∃ a cap, v = .slice a l.length cap := by
  obtain ⟨a, cap, _, hv, _⟩ := h
  exact ⟨a, cap, hv⟩

/-- An expression by its cells. -/
theorem ExprV.inv {op v n : Int} {l : List ET} (h : ExprV F w cs (.mk op v n l)) : ∃ lv, cs = [.int .i64 op, .int .i64 v, .int .i64 n, lv] ∧ ExprsV F w lv l := by
  cases h with
  | mk cc hr hc => exact ⟨_, rfl, _, _, cc, rfl, hr, hc⟩
theorem ExprV.of {op v n : Int} {l : List ET} {lv : Value} (h : ExprsV F w lv l) : ExprV F w [.int .i64 op, .int .i64 v, .int .i64 n, lv] (.mk op v n l) := by
  obtain ⟨a, cap, cc, rfl, hr, hc⟩ := h
  exact .mk cc hr hc
/-- A statement by its cells. -/
theorem StmtV.inv {op v : Int} {e f : ET} {b o : List ST} (h : StmtV F w cs (.mk op v e f b o)) : ∃ ce cf bv ov, cs = [.int .i64 op, .int .i64 v] ++ ce ++ cf ++ [bv, ov] ∧ ExprV F w ce e ∧ ExprV F w cf f ∧ StmtsV F w bv b ∧ StmtsV F w ov o := by
  cases h with
  | mk cb co he hf hb hcb ho hco => exact ⟨_, _, _, _, rfl, he, hf, ⟨_, _, cb, rfl, hb, hcb⟩, ⟨_, _, co, rfl, ho, hco⟩⟩
theorem StmtV.of {op v : Int} {e f : ET} {b o : List ST} {ce cf : List Value} {bv ov : Value} (he : ExprV F w ce e) (hf : ExprV F w cf f) (hb : StmtsV F w bv b) (ho : StmtsV F w ov o) : StmtV F w ([.int .i64 op, .int .i64 v] ++ ce ++ cf ++ [bv, ov]) (.mk op v e f b o) := by
  obtain ⟨a, cap, cc, rfl, hr, hc⟩ := hb
  obtain ⟨a', cap', cc', rfl, hr', hc'⟩ := ho
  exact .mk cc cc' he hf hr hc hr' hc'
theorem ExprsV.nil : ExprsV F w (.slice none 0 0) [] := ⟨none, 0, fun _ => [], rfl, fun h => absurd h (by simp), fun i h => by simp at h⟩
theorem StmtsV.nil : StmtsV F w (.slice none 0 0) [] := ⟨none, 0, fun _ => [], rfl, fun h => absurd h (by simp), fun i h => by simp at h⟩
end

/-! ### How great a tree is -/
mutual
def szE : ET → Nat
  | .mk _ _ _ l => 1 + szEs l
def szEs : List ET → Nat
  | [] => 0
  | t :: r => szE t + szEs r
end
mutual
def szS : ST → Nat
  | .mk _ _ e f b o => 1 + szE e + szE f + szSs b + szSs o
def szSs : List ST → Nat
  | [] => 0
  | t :: r => szS t + szSs r
end
end E
end Go.Proofs.YtbojicehfbeepadDoor
