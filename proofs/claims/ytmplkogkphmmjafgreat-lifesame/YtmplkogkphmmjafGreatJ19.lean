/- Several texts in one: StrB, ThrO, IrA, IrB, IrC, IrD, IrE, IrF. -/
import Derived.Test.YtmplkogkphmmjafGreatJ03
import Derived.Test.YtmplkogkphmmjafGreatJ08
import Derived.Test.YtmplkogkphmmjafGreatJ06
/- Laws of single operations on strings, second part: s[l:h], s + t, an error held against nil, two faults (structs of two numbers) held against one another. -/
namespace Go.Proofs.YtmplkogkphmmjafGreat
set_option maxRecDepth 20000
set_option maxHeartbeats 4000000
namespace E

section
variable {P : Program} {n : Nat} {σ : Env} {o : Oper}

/-- s[l:h]. -/
theorem val_strCut {t : Nat} {x lo hi : Operand} {k1 k2 : IntKind} {i1 i2 : Int} (s : ByteArray) (l h : Nat) (ht : isStr P t = true) (ho : o.op = .slice t x (some lo) (some hi) none) (hx : ev σ x = some (.string s))
    (h1 : ev σ lo = some (.int k1 i1)) (h2 : ev σ hi = some (.int k2 i2)) (e1 : i1 = (l : Int)) (e2 : i2 = (h : Int)) (hl : l ≤ h) (hh : h ≤ s.size) (w : World) : Val P n σ o w (.string (s.extract l h)) := by
  intro ac ha
  subst e1; subst e2
  simp [execOp, ho, ha.eval hx, ha.eval h1, ha.eval h2, Instr.sliceAt, Instr.slice, Instr.sliceBounds, Instr.sliceBound, asIntOf, run_underlying (isStr_spec ht), hl, hh]
/-- s[l:]. -/
theorem val_strFrom {t : Nat} {x lo : Operand} {k1 : IntKind} {i1 : Int} (s : ByteArray) (l : Nat) (ht : isStr P t = true) (ho : o.op = .slice t x (some lo) none none) (hx : ev σ x = some (.string s))
    (h1 : ev σ lo = some (.int k1 i1)) (e1 : i1 = (l : Int)) (hl : l ≤ s.size) (w : World) : Val P n σ o w (.string (s.extract l s.size)) := by
  intro ac ha
  subst e1
  simp [execOp, ho, ha.eval hx, ha.eval h1, Instr.sliceAt, Instr.slice, Instr.sliceBounds, Instr.sliceBound, asIntOf, run_underlying (isStr_spec ht), hl]
/-- s[:h]. -/
theorem val_strTo {t : Nat} {x hi : Operand} {k2 : IntKind} {i2 : Int} (s : ByteArray) (h : Nat) (ht : isStr P t = true) (ho : o.op = .slice t x none (some hi) none) (hx : ev σ x = some (.string s))
    (h2 : ev σ hi = some (.int k2 i2)) (e2 : i2 = (h : Int)) (hh : h ≤ s.size) (w : World) : Val P n σ o w (.string (s.extract 0 h)) := by
  intro ac ha
  subst e2
  simp [execOp, ho, ha.eval hx, ha.eval h2, Instr.sliceAt, Instr.slice, Instr.sliceBounds, Instr.sliceBound, asIntOf, run_underlying (isStr_spec ht), hh]

/-- s + t. -/
theorem val_strAdd {t t' : Nat} {x y : Operand} (a b : ByteArray) (ho : o.op = .binOp .add t x y t') (hx : ev σ x = some (.string a)) (hy : ev σ y = some (.string b)) (hs : a.size + b.size ≤ 9223372036854775807) (w : World) : Val P n σ o w (.string (a ++ b)) := by
  intro ac ha
  simp only [execOp, ho, ha.eval hx, ha.eval hy, Sem.run_bind]
  simp [eqGuard, binOp, Op.stringOp]
  omega

/-- A string's bytes. -/
theorem toList_extract (s : ByteArray) (l h : Nat) : (s.extract l h).data.toList = (s.data.toList.drop l).take (h - l) := by
  rw [ByteArray.data_extract, Array.toList_extract, List.extract_eq_drop_take']
  rw [List.drop_take]
theorem toList_add (a b : ByteArray) : (a ++ b).data.toList = a.data.toList ++ b.data.toList := by
  rw [ByteArray.data_append, Array.toList_append]
theorem size_toList (s : ByteArray) : s.data.toList.length = s.size := by
  rw [Array.length_toList]; rfl

def isIface (P : Program) (t : Nat) : Bool :=
  match P.underlying t with
  | some (.interface _) => true
  | _ => false
theorem isIface_spec {t : Nat} (h : isIface P t = true) : ∃ ms, P.underlying t = some (.interface ms) := by
  unfold isIface at h
  split at h
  · rename_i ms hu; exact ⟨ms, hu⟩
  · cases h

theorem eq_nil_nil {t : Nat} {ms : Array (String × TypeId)} (hu : P.underlying t = some (.interface ms)) (w : World) : (Op.equal t .nilIface .nilIface).run P w = .ok true w := by
  have e : ∀ d, (Op.equalIn (d + 1) t .nilIface .nilIface).run P w = .ok true w := by
    intro d
    simp [Op.equalIn, run_underlying hu]
  exact e 9999
theorem eq_some_nil {t : Nat} {ms : Array (String × TypeId)} (hu : P.underlying t = some (.interface ms)) (tp : TypeId) (v : Value) (w : World) : (Op.equal t (.iface tp v) .nilIface).run P w = .ok false w := by
  have e : ∀ d, (Op.equalIn (d + 1) t (.iface tp v) .nilIface).run P w = .ok false w := by
    intro d
    simp [Op.equalIn, run_underlying hu]
  exact e 9999
/-- err != nil, err == nil. -/
theorem val_errNil {t t' : Nat} {x : Operand} (h : isIface P t = true) (ho : o.op = .binOp .neq t x (.const .nilIface) t') (hx : ev σ x = some .nilIface) (w : World) : Val P n σ o w (.bool false) := by
  intro ac ha
  obtain ⟨ms, hu⟩ := isIface_spec h
  have e := eq_nil_nil hu w
  have hc : ac.eval (.const .nilIface) = .nilIface := ha.eval (x := .const .nilIface) rfl
  simp [execOp, ho, ha.eval hx, hc, eqGuard, binOp, e]
theorem val_errSome {t t' : Nat} {x : Operand} (tp : TypeId) (v : Value) (h : isIface P t = true) (ho : o.op = .binOp .neq t x (.const .nilIface) t') (hx : ev σ x = some (.iface tp v)) (w : World) : Val P n σ o w (.bool true) := by
  intro ac ha
  obtain ⟨ms, hu⟩ := isIface_spec h
  have e := eq_some_nil hu tp v w
  have hc : ac.eval (.const .nilIface) = .nilIface := ha.eval (x := .const .nilIface) rfl
  simp [execOp, ho, ha.eval hx, hc, eqGuard, binOp, e]
theorem val_errNilE {t t' : Nat} {x : Operand} (h : isIface P t = true) (ho : o.op = .binOp .eql t x (.const .nilIface) t') (hx : ev σ x = some .nilIface) (w : World) : Val P n σ o w (.bool true) := by
  intro ac ha
  obtain ⟨ms, hu⟩ := isIface_spec h
  have e := eq_nil_nil hu w
  have hc : ac.eval (.const .nilIface) = .nilIface := ha.eval (x := .const .nilIface) rfl
  simp [execOp, ho, ha.eval hx, hc, eqGuard, binOp, e]
theorem val_errSomeE {t t' : Nat} {x : Operand} (tp : TypeId) (v : Value) (h : isIface P t = true) (ho : o.op = .binOp .eql t x (.const .nilIface) t') (hx : ev σ x = some (.iface tp v)) (w : World) : Val P n σ o w (.bool false) := by
  intro ac ha
  obtain ⟨ms, hu⟩ := isIface_spec h
  have e := eq_some_nil hu tp v w
  have hc : ac.eval (.const .nilIface) = .nilIface := ha.eval (x := .const .nilIface) rfl
  simp [execOp, ho, ha.eval hx, hc, eqGuard, binOp, e]

/-- A struct of two numbers. -/
def isTwo (P : Program) (t : Nat) : Bool :=
  match P.underlying t with
  | some (.struct fs) => match fs.toList with
    | [f, g] => f.offset == 0 && g.offset == 1 && (f.name != "_") && (g.name != "_") && (match P.underlying f.type with | some (.int _) => true | _ => false) && (match P.underlying g.type with | some (.int _) => true | _ => false) && !(P.stoodInHeld t) && !(P.eqGuardType P.depth t)
    | _ => false
  | _ => false

theorem run_equal_two {t : Nat} (h : isTwo P t = true) (a b x y : Int) (w : World) :
    (Op.equalIn 10000 t (.agg #[.int .i64 a, .int .i64 x]) (.agg #[.int .i64 b, .int .i64 y])).run P w = .ok (a == b && x == y) w ∧ P.eqGuardType P.depth t = false := by
  unfold isTwo at h
  split at h
  · rename_i fs hu
    split at h
    · rename_i f g hfs
      simp only [Bool.and_eq_true, beq_iff_eq, bne_iff_ne, Bool.not_eq_true'] at h
      obtain ⟨⟨⟨⟨⟨⟨⟨h1, h2⟩, h3⟩, h4⟩, h5⟩, h6⟩, h7⟩, h8⟩ := h
      refine ⟨?_, h8⟩
      have hf : P.fieldsOf t = fs := by simp [Program.fieldsOf, hu]
      split at h5
      · rename_i k0 hs
        split at h6
        · rename_i k hk
          rw [run_equalIn_struct w 9999 t _ _ (by rw [hf]; exact hu) h7, hf, hfs]
          have e1 := run_equalIn_int (P := P) w 9998 f.type .i64 k0 a b hs
          have e2 := run_equalIn_int (P := P) w 9998 g.type .i64 k x y hk
          have p1 : (part f.type #[.int .i64 a, .int .i64 x] 0).run P w = .ok (.int .i64 a) w := by simp [part, isAgg, run_underlying hs]
          have p2 : (part f.type #[.int .i64 b, .int .i64 y] 0).run P w = .ok (.int .i64 b) w := by simp [part, isAgg, run_underlying hs]
          have p3 : (part g.type #[.int .i64 a, .int .i64 x] 1).run P w = .ok (.int .i64 x) w := by simp [part, isAgg, run_underlying hk]
          have p4 : (part g.type #[.int .i64 b, .int .i64 y] 1).run P w = .ok (.int .i64 y) w := by simp [part, isAgg, run_underlying hk]
          simp only [Op.eqFields, h1, h2, h3, h4, ne_eq, not_false_eq_true, if_true, Sem.run_bind, p1, p2, Result.andThen_ok, e1]
          generalize (a == b) = p at *
          generalize (x == y) = q at *
          have e2' : (Op.equalIn 9999 g.type (.int .i64 x) (.int .i64 y)).run P w = .ok q w := e2
          cases p <;> cases q <;> simp [p3, p4, e2']
        · cases h6
      · cases h5
    · cases h
  · cases h
theorem val_neTwo {t t' : Nat} {x y : Operand} (a b k l : Int) (r : Bool) (h : isTwo P t = true) (ho : o.op = .binOp .neq t x y t') (hx : ev σ x = some (.agg #[.int .i64 a, .int .i64 k])) (hy : ev σ y = some (.agg #[.int .i64 b, .int .i64 l]))
    (hr : (!(a == b && k == l)) = r) (w : World) : Val P n σ o w (.bool r) := by
  intro ac ha
  subst hr
  obtain ⟨h1, h2⟩ := run_equal_two h a b k l w
  simp only [execOp, ho, ha.eval hx, ha.eval hy, Sem.run_bind, run_eqGuard_agg w .neq t _ _ _ _ h2, Result.andThen_ok, run_neq_struct, h1]
  simp
theorem val_eqTwo {t t' : Nat} {x y : Operand} (a b k l : Int) (r : Bool) (h : isTwo P t = true) (ho : o.op = .binOp .eql t x y t') (hx : ev σ x = some (.agg #[.int .i64 a, .int .i64 k])) (hy : ev σ y = some (.agg #[.int .i64 b, .int .i64 l]))
    (hr : (a == b && k == l) = r) (w : World) : Val P n σ o w (.bool r) := by
  intro ac ha
  subst hr
  obtain ⟨h1, h2⟩ := run_equal_two h a b k l w
  simp only [execOp, ho, ha.eval hx, ha.eval hy, Sem.run_bind, run_eqGuard_agg w .eql t _ _ _ _ h2, Result.andThen_ok, run_eql_struct, h1]
  simp
end
end E
end Go.Proofs.YtmplkogkphmmjafGreat

/- Operations of code that gives up by a panic of its own, and is caught. -/
namespace Go.Proofs.YtmplkogkphmmjafGreat
set_option maxRecDepth 20000
set_option maxHeartbeats 4000000
namespace E
open Go.Proofs

/-! ### Single operations -/
section
variable {P : Program} {T : Tbl} {n : Nat} {σ : Env} {o : Oper} {w : World}
/-- s[1:]. -/
theorem val_rest {t : TypeId} {x lo : Operand} {b q len cap sz : Nat} {k1 : IntKind} {i1 : Int} (hT : T.check P = true) (ho : o.op = .slice t x (some lo) none none) (hx : ev σ x = some (.slice (some ⟨b, q, none⟩) len cap))
    (h1 : ev σ lo = some (.int k1 i1)) (ht : find T.sl t = some sz) (e1 : i1 = 1) (hl : 1 ≤ len) (w : World) :
    Val P n σ o w (.slice (if cap = 1 then some ⟨b, q, none⟩ else some ⟨b, q + sz, none⟩) (len - 1) (cap - 1)) := by
  intro a ha
  subst e1
  have hs := Tbl.sl_ok hT ht
  unfold slOk at hs
  split at hs
  · rename_i e hu
    by_cases hc : cap = 1
    · simp [execOp, ho, ha.eval hx, ha.eval h1, Instr.sliceAt, Instr.slice, Instr.sliceBounds, Instr.sliceBound, asIntOf, run_underlying hu, sizeOk_run hs, hc]
      intro hh
      omega
    · simp [execOp, ho, ha.eval hx, ha.eval h1, Instr.sliceAt, Instr.slice, Instr.sliceBounds, Instr.sliceBound, asIntOf, run_underlying hu, sizeOk_run hs, hc, Addr.add_mid]
      intro hh
      omega
  · cases hs
def isStruct (P : Program) (t : Nat) : Bool :=
  match P.underlying t with
  | some (.struct _) => true
  | _ => false
theorem val_iface {t : TypeId} {x : Operand} {cs : Array Value} (hs : isStruct P t = true) (ho : o.op = .makeInterface t x) (hx : ev σ x = some (.agg cs)) (w : World) : Val P n σ o w (.iface t (.agg cs)) := by
  intro a ha
  unfold isStruct at hs
  split at hs
  · rename_i fs hu
    simp [execOp, ho, ha.eval hx, Instr.makeInterface, run_underlying hu]
  · cases hs
theorem opE_throw {x : Operand} {t : TypeId} {u : Value} {K Kp : Value → World → Prop} (ho : o.op = .panic x) (hx : ev σ x = some (.iface t u)) (hK : Kp (.iface t u) w) : OpE P n σ o w K Kp := by
  refine opE_panic (w' := w) (v := .iface t u) (fun a ha => ?_) hK
  simp [execOp, ho, ha.eval hx, Instr.panic, goPanic]
end

section
variable {P : Program} {n : Nat} {σ : Env} {o : Oper}
theorem val_assert {t xt : TypeId} {x : Operand} {u : Value} (hs : isStruct P t = true) (ho : o.op = .typeAssert x xt t false) (hx : ev σ x = some (.iface t u)) (w : World) : Val P n σ o w u := by
  intro a ha
  unfold isStruct at hs
  split at hs
  · rename_i fs hu
    simp [execOp, ho, ha.eval hx, Instr.typeAssert, run_underlying hu]
  · cases hs
end
theorem CallsD.mono' {P : Program} {f : FuncId} {args : Array Value} {u : FrameMode} {w : World} {R R' : Ending → FrameMode → World → Prop} (h : CallsD P f args u w R) (hr : ∀ e u' w', R e u' w' → R' e u' w') : CallsD P f args u w R' := fun c cs hc => by
  obtain ⟨e, u', w', fr, h1, h2⟩ := h c cs hc
  exact ⟨e, u', w', fr, hr e u' w' h1, h2⟩

end E
end Go.Proofs.YtmplkogkphmmjafGreat

/- The landed package ideal: how a runner lies in memory; giving up; contracts of giveUp, truth, count, read, cell. -/
namespace Go.Proofs.YtmplkogkphmmjafGreat
set_option maxRecDepth 20000
set_option maxHeartbeats 4000000
namespace E
open Go.Proofs

abbrev tRu : Nat := 90
theorem neRuL : tRu ≠ tLg := by decide
theorem size_rn : sizeOk Tryz.prog 3 1 = true := by kernel_rfl
theorem size_rl : sizeOk Tryz.prog 2 1 = true := by kernel_rfl
theorem size_rs : sizeOk Tryz.prog 26 1 = true := by kernel_rfl
/-- What the runner panics with. -/
def gvI (c : Nat) : Value := .iface 142 (.agg #[.int .i64 (c : Nat)])
theorem built_gI (a : Int) : Tryz.prog.built 142 [(0, .int .i64 a)] = some [Value.int .i64 a].toArray := by kernel_rfl
theorem iGiveUp_end (c : Nat) (w : World) : End Tryz.prog 98 [.int .i64 (c : Nat)] w (fun _ _ => False) (fun v w' => v = gvI c ∧ w' = w) := by
  refine end_of 5 Tryz.func98 rfl rfl (by simp) ?_
  refine au ?_
  refine pl_val _ rfl rfl (val_build _ rfl rfl (built_gI (c : Nat)) w) ?_
  refine pl_val _ rfl rfl (val_iface (by decide +kernel) rfl rfl w) ?_
  refine pl_opE Tryz.func98 rfl rfl (opE_throw rfl rfl ?_)
  exact ⟨rfl, rfl⟩
theorem iTruth_ret (t : Bool) (w : World) : Ret Tryz.prog 150 [.bool t] w fun r w' => r = .int .i64 (bitI t) ∧ w' = w := by
  refine ret_of 4 Tryz.func150 rfl rfl (by simp) ?_
  cases t
  · refine au ?_
    exact rn_ret Tryz.func150 (.inl ⟨_, rfl, rfl⟩) ⟨rfl, rfl⟩
  · refine au ?_
    exact rn_ret Tryz.func150 (.inl ⟨_, rfl, rfl⟩) ⟨rfl, rfl⟩

/-- What a run leaves alone: all blocks but those of numbers and of runners. -/
structure Rf (w w' : World) : Prop where
  size : w.heap.size ≤ w'.heap.size
  blk : ∀ {c : Nat} {L : List Value} {e : TypeId}, Blk w c L e → e ≠ tRu → e ≠ tLg → Blk w' c L e
theorem Rf.refl (w : World) : Rf w w := ⟨Nat.le_refl _, fun h _ _ => h⟩
theorem Rf.tr {w w' w'' : World} (h : Rf w w') (h' : Rf w' w'') : Rf w w'' := ⟨Nat.le_trans h.size h'.size, fun hb h1 h2 => h'.blk (h.blk hb h1 h2) h1 h2⟩
theorem Rf.of0 {w w' : World} (h : Keep [] w w') : Rf w w' := ⟨h.size, fun hb _ _ => h.blk hb (by simp)⟩
theorem Rf.of {w w' : World} {fp : List Nat} (h : Keep fp w w') (hf : ∀ k ∈ fp, ∃ L e, Blk w k L e ∧ (e = tRu ∨ e = tLg)) : Rf w w' :=
  ⟨h.size, fun hb h1 h2 => h.blk hb fun hm => by
    obtain ⟨L, e, hb', he⟩ := hf _ hm
    rcases he with he | he
    · exact Blk.ne hb hb' (fun h => h1 (h.trans he)) rfl
    · exact Blk.ne hb hb' (fun h => h2 (h.trans he)) rfl⟩

/-- What a runner is given: its program, input and fuel; where it lies, and its cells; the world in which it was not yet. -/
structure Kx where
  vs : List VarT
  bd : List ST
  F : Nat → Prop
  inp : List Int
  fuel : Nat
  w0 : World
  b : Nat
  vv : Value
  bv : Value
  cv : Value
structure Kx.Ok (C : Kx) : Prop where
  pr : ProgV C.F C.w0 (.agg #[C.vv, C.bv]) C.vs C.bd
  hF : In C.F C.w0
  sz : ∀ x ∈ C.vs, 1 ≤ x.2 ∧ x.2 ≤ 48
  vl : C.vs.length ≤ 8
  sum : sumV C.vs ≤ 48
  fu : C.fuel ≤ 3000
  il : C.inp.length ≤ 40
  ge : C.w0.heap.size ≤ C.b
theorem Kx.Ok.sized {C : Kx} (h : C.Ok) : Sized C.vs := ⟨by have := h.vl; omega, fun x hx => by have := h.sz x hx; omega⟩
/-- What of the input was not read. -/
def Un (w0 : World) (inp : List Int) (rd : Nat) (u : Value) : Prop :=
  ∃ a c, u = .slice a (inp.length - rd) c ∧ inp.length - rd ≤ c ∧ rd ≤ inp.length ∧ (rd < inp.length → ∃ g q, a = some ⟨g, q + rd, none⟩ ∧ g < w0.heap.size ∧ w0.rangeAt g q (lgs inp))
def ruC (C : Kx) (n : Nat) (u o : Value) : List Value := [.int .i64 (n : Nat), .int .i64 (C.fuel : Nat), C.vv, C.bv, u, C.cv, o]
/-- The runner as it is where s is. -/
structure Ru (C : Kx) (w : World) (u o : Value) (s : Es) : Prop where
  kp : Keep [] C.w0 w
  bk : Blk w C.b (ruC C s.n u o) tRu
  un : Un C.w0 C.inp s.read u
  rc : RowL w C.w0.heap.size C.cv s.cells
  ro : RowL w C.w0.heap.size o s.out
  ap : Apt C.cv o
  cl : (s.cells.length : Int) = sumV C.vs
  le : s.n ≤ C.fuel
  ol : s.out.length ≤ s.n
def Rt (C : Kx) (w : World) (s : Es) : Prop := ∃ u o, Ru C w u o s

section
variable {C : Kx} {w w1 w2 : World} {u o : Value} {s : Es}
theorem Ru.keep0 (h : Ru C w u o s) (hk : Keep [] w w1) : Ru C w1 u o s :=
  ⟨h.kp.tr hk, hk.blk h.bk (by simp), h.un, h.rc.keep hk (by simp), h.ro.keep hk (by simp), h.ap, h.cl, h.le, h.ol⟩
theorem Rt.keep0 (h : Rt C w s) (hk : Keep [] w w1) : Rt C w1 s := let ⟨u, o, h⟩ := h; ⟨u, o, h.keep0 hk⟩
theorem Rt.kp (h : Rt C w s) : Keep [] C.w0 w := let ⟨_, _, h⟩ := h; h.kp
theorem Rt.le (h : Rt C w s) : s.n ≤ C.fuel := let ⟨_, _, h⟩ := h; h.le
/-- Its own block alone has turned. -/
theorem Ru.put (hC : C.Ok) (h : Ru C w u o s) (hk : Keep [C.b] w w1) {u' : Value} {n rd : Nat} (hb : Blk w1 C.b (ruC C n u' o) tRu) (hu : Un C.w0 C.inp rd u') (hn : n ≤ C.fuel) (hn2 : s.n ≤ n) : Ru C w1 u' o { s with n := n, read := rd } ∧ Rf w w1 :=
  ⟨⟨h.kp.trB hk hC.ge, hb, hu, h.rc.keep hk (h.rc.ne h.bk neRuL), h.ro.keep hk (h.ro.ne h.bk neRuL), h.ap, h.cl, hn, Nat.le_trans h.ol hn2⟩, Rf.of hk fun k hm => ⟨ruC C s.n u o, tRu, by rw [List.mem_singleton.1 hm]; exact h.bk, .inl rfl⟩⟩
/-- A cell of it has turned. -/
theorem Ru.set (h : Ru C w u o s) {j : Nat} (hj : j < s.cells.length) {g cap : Nat} (hv : C.cv = .slice (some ⟨g, 0, none⟩) s.cells.length cap) : ∃ cur, Blk w g cur tLg ∧ j < cur.length ∧ ∀ {w' : World} {n : Int}, Keep [g] w w' → Blk w' g (splice cur j [.int .i64 n]) tLg → Ru C w' u o { s with cells := s.cells.set j n } ∧ Rf w w' := by
  obtain ⟨cur, h1, h2, h3⟩ := h.rc.set hj hv
  refine ⟨cur, h1, h2, fun {w' n} hk hb => ⟨⟨?_, hk.blk h.bk ?_, h.un, h3 hb, ?_, h.ap, by rw [List.length_set]; exact h.cl, h.le, h.ol⟩, Rf.of hk fun k hm => ⟨cur, tLg, by rw [List.mem_singleton.1 hm]; exact h1, .inr rfl⟩⟩⟩
  · refine h.kp.trans hk fun k hm => .inr ?_
    rw [List.mem_singleton.1 hm]
    exact (h.rc.lt g (by rw [hv]; simp [obs, Value.ownBlock])).1
  · simp only [List.mem_singleton]
    exact Blk.ne h.bk h1 neRuL
  · refine h.ro.keep hk fun k hk' hm => ?_
    rw [List.mem_singleton.1 hm] at hk'
    exact h.ap g (by rw [hv]; simp [obs, Value.ownBlock]) hk'
end

/-- It returns as X says, or gives up with X's code; where it is then. -/
def Gos {α : Type} (C : Kx) (f : Nat) (args : List Value) (w : World) (X : Ex α) (K : α → Value → World → Prop) : Prop :=
  End Tryz.prog f args w (fun r w' => ∃ a, X = .ok a ∧ K a r w' ∧ Rf w w') (fun v w' => ∃ e, X = .error e ∧ v = gvI e.1 ∧ Rt C w' e.2 ∧ Rf w w')
/-- What is called inside. -/
theorem gos_step {α β : Type} {C : Kx} {g : Nat} {args : List Value} {w w1 : World} {Y : Ex α} {T : Ex β} {k : α → Ex β} {K : α → Value → World → Prop} {KK : Value → World → Prop} (h : Gos C g args w1 Y K) (hX : T = bndX Y k) (hR : Rf w w1)
    (hk : ∀ a r w', T = k a → K a r w' → Rf w1 w' → Rf w w' → KK r w') : End Tryz.prog g args w1 KK (fun v w' => ∃ e, T = .error e ∧ v = gvI e.1 ∧ Rt C w' e.2 ∧ Rf w w') := by
  refine End.mono h ?_ ?_
  · rintro r w' ⟨a, rfl, h1, h2⟩
    exact hk a r w' hX h1 h2 (hR.tr h2)
  · rintro v w' ⟨e, rfl, h1, h2, h3⟩
    exact ⟨e, hX, h1, h2, hR.tr h3⟩
theorem bnd_id {α : Type} (X : Ex α) : X = bndX X Except.ok := by cases X <;> rfl

section
variable {C : Kx} {w : World} {u o : Value} {s : Es}
theorem iCount_end (hC : C.Ok) (h : Rt C w s) : Gos C 75 [.pointer (some ⟨C.b, 0, none⟩)] w (tick C.fuel s) fun s2 r w' => r = .tuple #[] ∧ s2 = { s with n := s.n + 1 } ∧ Rt C w' s2 := by
  obtain ⟨u, o, h⟩ := h
  have hle := h.le
  have hfu := hC.fu
  refine end_of 19 Tryz.func75 rfl rfl (by simp) ?_
  refine auj ?_
  refine rn_seq ?_
  refine rn_seq ?_
  refine rn_draw (fun w' => Keep [] w w') [] hMix ?_
  have hS : Keep [] w w.drew := (Keep.refl _ _).drew
  generalize w.drew = w2 at *
  refine tk 0 ?_
  refine tk 1 ?_
  refine tk 2 ?_
  refine dr_val 3 (.int .i64 (s.n : Nat)) rfl (by decide +kernel) rfl rfl (fun w9 hS9 => val_load1 hT rfl rfl rfl ((hS9.blk h.bk (by simp)).cell rfl)) hS ?_
  refine tk 4 ?_
  refine tk 5 ?_
  refine tk 6 ?_
  refine dr_val 7 (.int .i64 (C.fuel : Nat)) rfl (by decide +kernel) rfl rfl (fun w9 hS9 => val_load1 hT rfl rfl rfl ((hS9.blk h.bk (by simp)).cell rfl)) hS ?_
  have h2 := h.keep0 hS
  by_cases hlt : s.n < C.fuel
  · have hX : tick C.fuel s = .ok { s with n := s.n + 1 } := by unfold tick; rw [if_pos hlt]
    refine dno 8 ?_
    refine dr_done (by decide +kernel) ?_
    refine au ?_
    refine pl_val _ rfl rfl (val_load1 hT rfl rfl rfl (h2.bk.cell rfl)) ?_
    refine pl_num (((s.n + 1 : Nat) : Int)) rfl rfl rfl rfl rfl (by simp only [ariP]; omega) ?_
    refine au ?_
    refine pl_op rfl rfl (opTo_storeN [.int .i64 ((s.n + 1 : Nat) : Int)] rfl rfl rfl rfl size_rn h2.bk (by simp [ruC]) (one_in _) ?_)
    intro w3 hs3 hk3 hb3
    refine au ?_
    obtain ⟨h3, hR3⟩ := h2.put hC hk3 (n := s.n + 1) (rd := s.read) hb3 h2.un (by omega) (by omega)
    exact rn_end Tryz.func75 (.inr (.inl ⟨rfl, rfl⟩)) ⟨_, hX, ⟨rfl, rfl, u, o, h3⟩, (Rf.of0 hS).tr hR3⟩
  · have hX : tick C.fuel s = .error (13, s) := by unfold tick; rw [if_neg hlt]
    refine dye 8 ?_
    refine dr_done (by decide +kernel) ?_
    refine au ?_
    refine pl_opE Tryz.func75 rfl rfl (opE_call (fst := []) (cap := []) rfl rfl rfl rfl (by decide +kernel) ((iGiveUp_end 13 _).mono ?_ ?_))
    · intro v w' hf
      exact hf.elim
    · rintro v w' ⟨rfl, rfl⟩
      exact ⟨_, hX, rfl, ⟨u, o, h2⟩, Rf.of0 hS⟩

/-- A number of the input. -/
def readX (inp : List Int) (s : Es) : Ex (Int × Es) := if s.read < inp.length then .ok (inp.getD s.read 0, { s with read := s.read + 1 }) else .error (12, s)
theorem iRead_end (hC : C.Ok) (h : Rt C w s) : Gos C 127 [.pointer (some ⟨C.b, 0, none⟩)] w (readX C.inp s) fun a r w' => r = .int .i64 a.1 ∧ a.2 = { s with read := s.read + 1 } ∧ Rt C w' a.2 := by
  obtain ⟨u, o, h⟩ := h
  have hil := hC.il
  obtain ⟨a, c, rfl, hc, hrl, hat⟩ := h.un
  refine end_of 26 Tryz.func127 rfl rfl (by simp) ?_
  refine au ?_
  refine pl_val _ rfl rfl (val_load1 hT rfl rfl rfl (h.bk.cell rfl)) ?_
  refine au ?_
  by_cases hlt : s.read < C.inp.length
  · have hX : readX C.inp s = .ok (C.inp.getD s.read 0, { s with read := s.read + 1 }) := by unfold readX; rw [if_pos hlt]
    obtain ⟨g, q, rfl, hg, hra⟩ := hat hlt
    clear hat
    refine nay ?_
    refine au ?_
    refine pl_val _ rfl rfl (val_load1 hT rfl rfl rfl (h.bk.cell rfl)) ?_
    refine pl_val _ rfl rfl (val_index 0 hT rfl rfl rfl rfl rfl (by omega) w) ?_
    have hget : C.inp[s.read]? = some (C.inp.getD s.read 0) := by rw [List.getD_eq_getElem?_getD, List.getElem?_eq_getElem hlt]; rfl
    have hcell : w.cell? ⟨g, q + s.read, none⟩ = some (.int .i64 (C.inp.getD s.read 0)) := range_keep hra h.kp hg (by simp) s.read _ (lgs_at hget)
    refine pl_val _ rfl rfl (val_load1 hT rfl rfl rfl (hcell)) ?_
    refine au ?_
    refine pl_val _ rfl rfl (val_load1 hT rfl rfl rfl (h.bk.cell rfl)) ?_
    refine pl_val _ rfl rfl (val_rest hT rfl rfl rfl rfl rfl (by omega) w) ?_
    refine au ?_
    refine pl_op rfl rfl (opTo_storeN [.slice (if c = 1 then some ⟨g, q + s.read, none⟩ else some ⟨g, q + s.read + 1, none⟩) (C.inp.length - s.read - 1) (c - 1)] rfl rfl rfl rfl size_rs h.bk (by simp [ruC]) (one_v rfl) ?_)
    intro w3 hs3 hk3 hb3
    refine au ?_
    have hu : Un C.w0 C.inp (s.read + 1) (.slice (if c = 1 then some ⟨g, q + s.read, none⟩ else some ⟨g, q + s.read + 1, none⟩) (C.inp.length - s.read - 1) (c - 1)) :=
      ⟨if c = 1 then some ⟨g, q + s.read, none⟩ else some ⟨g, q + s.read + 1, none⟩, c - 1, by rw [show C.inp.length - (s.read + 1) = C.inp.length - s.read - 1 by omega], by omega, by omega, fun h1 => ⟨g, q, by rw [if_neg (by omega)]; rfl, hg, hra⟩⟩
    obtain ⟨h3, hR3⟩ := h.put hC hk3 (n := s.n) (rd := s.read + 1) hb3 hu h.le (Nat.le_refl _)
    exact rn_ret Tryz.func127 (.inl ⟨_, rfl, rfl⟩) ⟨_, hX, ⟨rfl, rfl, _, o, h3⟩, hR3⟩
  · have hX : readX C.inp s = .error (12, s) := by unfold readX; rw [if_neg hlt]
    refine ye ?_
    refine au ?_
    refine pl_opE Tryz.func127 rfl rfl (opE_call (fst := []) (cap := []) rfl rfl rfl rfl (by decide +kernel) ((iGiveUp_end 12 _).mono ?_ ?_))
    · intro v w' hf
      exact hf.elim
    · rintro v w' ⟨rfl, rfl⟩
      exact ⟨_, hX, rfl, ⟨_, o, h⟩, Rf.refl _⟩
end
end E
end Go.Proofs.YtmplkogkphmmjafGreat

/- The landed package ideal: contracts of cell, expr. -/
namespace Go.Proofs.YtmplkogkphmmjafGreat
set_option maxRecDepth 20000
set_option maxHeartbeats 4000000
namespace E
open Go.Proofs

theorem sizeV_at {vs : List VarT} {k : Nat} (hk : k < vs.length) : sizeV vs ((k : Nat) : Int) = vs[k].2 := by
  unfold sizeV
  rw [Int.toNat_natCast, List.getD_eq_getElem?_getD, List.getElem?_eq_getElem hk]
  rfl
theorem rcell_in {vs : List VarT} (hz : ∀ x ∈ vs, 1 ≤ x.2 ∧ x.2 ≤ 48) {v n : Int} (hv0 : 0 ≤ v) (hvl : v.toNat < vs.length) (_ : 0 ≤ n) (hn : n < sizeV vs v) : 0 ≤ cellOf vs v ∧ cellOf vs v + n < sumV vs := by
  obtain ⟨k, rfl⟩ : ∃ k : Nat, v = (k : Nat) := ⟨v.toNat, by omega⟩
  rw [Int.toNat_natCast] at hvl
  rw [sizeV_at hvl] at hn
  have h1 := sumV_take_succ (List.getElem?_eq_getElem hvl)
  have h2 := sumV_take_le hz (show k + 1 ≤ vs.length by omega)
  have h3 := sumV_take_le hz (Nat.zero_le k)
  rw [List.take_length] at h2
  have e : cellOf vs ((k : Nat) : Int) = sumV (vs.take k) := by unfold cellOf; rw [Int.toNat_natCast]
  rw [e]
  have h4 : sumV (vs.take 0) = 0 := by simp [sumV]
  omega
theorem size_pos {vs : List VarT} (hz : ∀ x ∈ vs, 1 ≤ x.2 ∧ x.2 ≤ 48) {v : Int} (hv0 : 0 ≤ v) (hvl : v.toNat < vs.length) : 1 ≤ sizeV vs v ∧ sizeV vs v ≤ 48 := by
  obtain ⟨k, rfl⟩ : ∃ k : Nat, v = (k : Nat) := ⟨v.toNat, by omega⟩
  rw [Int.toNat_natCast] at hvl
  rw [sizeV_at hvl]
  exact hz _ (List.getElem_mem _)

section
variable {C : Kx} {w : World} {u o : Value} {s : Es}
theorem iCell_end (hC : C.Ok) (h : Ru C w u o s) (v n : Int) (hv0 : 0 ≤ v) (hvl : v.toNat < C.vs.length) : End Tryz.prog 126 [.pointer (some ⟨C.b, 0, none⟩), .int .i64 v, .int .i64 n] w
    (fun r w' => (0 ≤ n ∧ n < sizeV C.vs v) ∧ (cellOf C.vs v + n).toNat < s.cells.length ∧ (∃ g cap, C.cv = .slice (some ⟨g, 0, none⟩) s.cells.length cap ∧ r = .pointer (some ⟨g, (cellOf C.vs v + n).toNat, none⟩)) ∧ Keep [] w w')
    (fun x w' => ¬ (0 ≤ n ∧ n < sizeV C.vs v) ∧ x = gvI 11 ∧ Keep [] w w') := by
  have hsz := size_pos hC.sz hv0 hvl
  have hin := rcell_in hC.sz hv0 hvl (n := n)
  have hsum := hC.sum
  have hcl := h.cl
  have hpr := hC.pr
  obtain ⟨vv', bv', hpe, hvv, hbb⟩ := hpr
  injection hpe with hpe
  have hpe2 := congrArg Array.toList hpe
  simp only [List.cons.injEq, and_true] at hpe2
  obtain ⟨hpe1, hpe2⟩ := hpe2
  rw [← hpe1] at hvv
  have hk : v = ((v.toNat : Nat) : Int) := by omega
  have hsv := sizeV_at hvl
  rw [← hk] at hsv
  have hxv : C.vs[v.toNat]? = some C.vs[v.toNat] := List.getElem?_eq_getElem hvl
  obtain ⟨vb, vq, vc, hve, hFv, hrv⟩ := hvv.at hxv
  refine end_of 36 Tryz.func126 rfl rfl (by simp) ?_
  refine au ?_
  by_cases hneg : n < 0
  · refine ye ?_
    refine au ?_
    refine pl_opE Tryz.func126 rfl rfl (opE_call (fst := []) (cap := []) rfl rfl rfl rfl (by decide +kernel) ((iGiveUp_end 11 _).mono ?_ ?_))
    · intro v w' hf
      exact hf.elim
    · rintro v w' ⟨rfl, rfl⟩
      exact ⟨by omega, rfl, Keep.refl _ _⟩
  · refine nay ?_
    refine au ?_
    refine pl_val (.slice (some ⟨vb, vq, none⟩) C.vs.length vc) rfl rfl (val_load1 hT rfl rfl rfl (h.bk.cell (by rw [← hve]; rfl))) ?_
    refine au ?_
    refine pl_val _ rfl rfl (val_index v.toNat hT rfl rfl rfl rfl hk hvl w) ?_
    refine au ?_
    refine pl_val _ rfl rfl (val_load1 hT rfl rfl rfl ((range_keep hrv h.kp (hC.hF _ hFv) (by simp)) 1 (.int .i64 C.vs[v.toNat].2) rfl)) ?_
    by_cases hge : n < sizeV C.vs v
    · obtain ⟨hi1, hi2⟩ := hin (by omega) hge
      rw [hsv] at hge
      refine nay ?_
      refine au ?_
      obtain ⟨j, hj⟩ : ∃ j : Nat, j = (cellOf C.vs v + n).toNat := ⟨_, rfl⟩
      have hjl : j < s.cells.length := by omega
      obtain ⟨g, cap, hcv, hglt, hgr⟩ := h.rc.at2 (List.getElem?_eq_getElem hjl)
      refine rn_draw (fun w' => Keep [] w w') [] hMix ?_
      have hS : Keep [] w w.drew := (Keep.refl _ _).drew
      generalize w.drew = w2 at *
      refine tk 0 ?_
      refine tk 1 ?_
      refine tk 2 ?_
      refine dr_val 3 (.slice (some ⟨g, 0, none⟩) s.cells.length cap) rfl (by decide +kernel) rfl rfl (fun w9 hS9 => val_load1 hT rfl rfl rfl ((hS9.blk h.bk (by simp)).cell (by rw [← hcv]; rfl))) hS ?_
      refine tk 4 ?_
      refine tk 5 ?_
      refine tk 6 ?_
      refine dr_val 7 (.agg #[C.vv, C.bv]) rfl (by decide +kernel) rfl rfl (fun w9 hS9 => val_load [C.vv, C.bv] hT rfl rfl rfl ((hS9.blk h.bk (by simp)).range (by rfl))) hS ?_
      refine tk 8 ?_
      refine tk 10 ?_
      refine dr_op 9 rfl (by decide +kernel) rfl rfl (opTo_call (fst := []) (cap := []) rfl rfl rfl rfl (by decide +kernel) ((cell_ret (hC.pr.keep (h.kp.tr hS) hC.hF.stays) (hC.hF.keep (h.kp.tr hS)) hC.sized v).mono ?_))
      rintro r w3 ⟨rfl, hk3⟩
      refine ⟨fun _ => hS.tr hk3, ?_⟩
      refine dr_num 11 ((j : Nat)) rfl (by decide +kernel) rfl rfl rfl rfl rfl (by simp only [ariP]; omega) ?_
      refine dr_any 12 _ rfl (by decide +kernel) rfl rfl (fun w => val_index j hT rfl rfl rfl rfl rfl hjl w) ?_
      refine tk 13 ?_
      refine dr_done (by decide +kernel) ?_
      refine au ?_
      refine rn_ret Tryz.func126 (.inl ⟨_, rfl, rfl⟩) ⟨⟨by omega, by rw [hsv]; exact hge⟩, by omega, ⟨g, cap, hcv, ?_⟩, hS.tr hk3⟩
      rw [← hj, Nat.zero_add, Nat.mul_one]
    · have hge' := hge
      rw [hsv] at hge
      refine ye ?_
      refine au ?_
      refine pl_opE Tryz.func126 rfl rfl (opE_call (fst := []) (cap := []) rfl rfl rfl rfl (by decide +kernel) ((iGiveUp_end 11 _).mono ?_ ?_))
      · intro v w' hf
        exact hf.elim
      · rintro v w' ⟨rfl, rfl⟩
        exact ⟨fun h => hge' h.2, rfl, Keep.refl _ _⟩
end
end E
end Go.Proofs.YtmplkogkphmmjafGreat

/- The landed package ideal: what a tree must be for a run; contract of expr. -/
namespace Go.Proofs.YtmplkogkphmmjafGreat
set_option maxRecDepth 20000
set_option maxHeartbeats 4000000
namespace E
open Go.Proofs

mutual
def rnE (nv : Nat) : ET → Prop
  | .mk op v _ l => 1 ≤ op ∧ op ≤ 8 ∧ l.length ≤ 2 ∧ (op = 2 ∨ op = 3 → 0 ≤ v ∧ v.toNat < nv) ∧ rnEs nv l
def rnEs (nv : Nat) : List ET → Prop
  | [] => True
  | t :: r => rnE nv t ∧ rnEs nv r
end
mutual
def rnS (nv : Nat) : ST → Prop
  | .mk op v e f b o => 1 ≤ op ∧ op ≤ 7 ∧ (needV op = true → 0 ≤ v ∧ v.toNat < nv) ∧ (needE op = true → rnE nv e) ∧ (needF op = true → rnE nv f) ∧ rnSs nv b ∧ rnSs nv o
def rnSs (nv : Nat) : List ST → Prop
  | [] => True
  | t :: r => rnS nv t ∧ rnSs nv r
end
theorem rnEs_at {nv : Nat} : ∀ {l : List ET} {i : Nat} {t : ET}, rnEs nv l → l[i]? = some t → rnE nv t
  | [], _, _, _, h => by simp at h
  | x :: r, 0, t, h, e => by simp at e; subst e; exact h.1
  | x :: r, i + 1, t, h, e => by simp at e; exact rnEs_at h.2 e
theorem rnSs_at {nv : Nat} : ∀ {l : List ST} {i : Nat} {t : ST}, rnSs nv l → l[i]? = some t → rnS nv t
  | [], _, _, _, h => by simp at h
  | x :: r, 0, t, h, e => by simp at e; subst e; exact h.1
  | x :: r, i + 1, t, h, e => by simp at e; exact rnSs_at h.2 e
theorem partsOf_le (op : Int) : partsOf op ≤ 2 := by
  unfold partsOf
  split
  · omega
  · split
    · omega
    · split <;> omega
mutual
theorem chkE_rn {nv : Nat} : ∀ (t : ET) {d k k' : Nat}, chkE nv t d k = .ok k' → rnE nv t
  | .mk op v n l, d, k, k', h => by
    obtain ⟨_, h1, k1, h2⟩ := chkE_inv h
    obtain ⟨a, b, c, _, e, _⟩ := ownE_inv h1
    have := partsOf_le op
    exact ⟨a, b, by omega, e, chkEs_rn l h2⟩
theorem chkEs_rn {nv : Nat} : ∀ (l : List ET) {d k k' : Nat}, chkEs nv l d k = .ok k' → rnEs nv l
  | [], _, _, _, _ => trivial
  | t :: r, d, k, k', h => by
    obtain ⟨⟨k1, h1⟩, k2, h2⟩ := chkEs_inv h
    exact ⟨chkE_rn t h1, chkEs_rn r h2⟩
end
mutual
theorem chkS_rn {nv : Nat} : ∀ (t : ST) {d k k' : Nat}, chkS nv t d k = .ok k' → rnS nv t
  | .mk op v e f b o, d, k, k', h => by
    obtain ⟨_, h1, h2, h3, ⟨k1, k2, h4⟩, k3, k4, h5⟩ := chkS_inv h
    obtain ⟨a, a', _, _, _, _, c, _⟩ := ownS_inv h1
    exact ⟨a, a', c, fun hn => (let ⟨_, _, hc⟩ := h2 hn; chkE_rn e hc), fun hn => (let ⟨_, _, hc⟩ := h3 hn; chkE_rn f hc), chkSs_rn b h4, chkSs_rn o h5⟩
theorem chkSs_rn {nv : Nat} : ∀ (l : List ST) {d k k' : Nat}, chkSs nv l d k = .ok k' → rnSs nv l
  | [], _, _, _, _ => trivial
  | t :: r, d, k, k', h => by
    obtain ⟨⟨k1, h1⟩, k2, h2⟩ := chkSs_inv h
    exact ⟨chkS_rn t h1, chkSs_rn r h2⟩
end

theorem bnd_assoc {α β γ : Type} (x : Ex α) (f : α → Ex β) (g : β → Ex γ) : bndX (bndX x f) g = bndX x fun a => bndX (f a) g := by cases x <;> rfl
theorem cellAt_of {l : List Int} {k : Int} (h : k.toNat < l.length) : l[k.toNat]? = some (cellAt l k) := by
  unfold cellAt
  rw [List.getD_eq_getElem?_getD, List.getElem?_eq_getElem h]
  rfl
theorem Rf.trB {w w' w'' : World} {k : Nat} (h : Rf w w') (hk : Keep [k] w' w'') (hge : w.heap.size ≤ k) : Rf w w'' :=
  ⟨Nat.le_trans h.size hk.size, fun hb h1 h2 => hk.blk (h.blk hb h1 h2) (by simp only [List.mem_singleton]; have := hb.lt; omega)⟩

def pts (xs : List Int) : List Value := [.int .i64 (xs.getD 0 0), .int .i64 (xs.getD 1 0)]
theorem pts_put {xs : List Int} {i : Nat} (hi : xs.length = i) (h2 : i < 2) (y : Int) : splice (pts xs) (0 + i * 1) [.int .i64 y] = pts (xs ++ [y]) := by
  match xs, hi, h2 with
  | [], rfl, _ => rfl
  | [x], rfl, _ => rfl
  | x :: z :: r, rfl, h => simp at h; omega
theorem zero_pt : ((Tryz.prog.info? 175).bind (·.zero)).map (·.cells) = some (pts []).toArray := by kernel_rfl
theorem zero_ie : ((Tryz.prog.info? 94).bind (·.zero)).map (·.cells) = some [Value.int .i64 0, .int .i64 0, .int .i64 0, .slice none 0 0].toArray := by kernel_rfl
theorem size_ie : sizeOk Tryz.prog 94 4 = true := by kernel_rfl
theorem neERu : 94 ≠ tRu := by decide
theorem neELg : 94 ≠ tLg := by decide
theorem nePRu : 175 ≠ tRu := by decide
theorem nePLg : 175 ≠ tLg := by decide

/-- expr does for what is smaller. -/
def ExI (C : Kx) (z : Nat) : Prop := ∀ (t : ET), szE t < z → rnE C.vs.length t → ∀ {w : World} {cs : List Value} {s : Es}, ExprV C.F C.w0 cs t → Rt C w s →
    Gos C 139 [.pointer (some ⟨C.b, 0, none⟩), .agg cs.toArray] w (evE C.vs C.fuel t s) fun a r w' => r = .int .i64 a.1 ∧ s.n ≤ a.2.n ∧ Rt C w' a.2

theorem iexpr_end {C : Kx} (hC : C.Ok) : ∀ (z : Nat), ExI C z := by
  intro z
  induction z with
  | zero => intro t ht; omega
  | succ z ihs =>
    intro t ht hrn w cs s hX h
    obtain ⟨op, v, n, l⟩ := t
    obtain ⟨lv, rfl, hE⟩ := hX.inv
    obtain ⟨a, cap, rfl⟩ := hE.form
    obtain ⟨ho1, ho8, hl2, hvr, hrl⟩ := hrn
    simp only [szE] at ht
    obtain ⟨TOT, hT0⟩ : ∃ TOT, TOT = evE C.vs C.fuel (.mk op v n l) s := ⟨_, rfl⟩
    rw [← hT0]
    have hT1 : TOT = bndX (evEs C.vs C.fuel (l.drop 0) s) fun c => bndX (tick C.fuel c.2) fun s2 => sayE C.vs op v n ([] ++ c.1) s2 := by
      rw [hT0]
      rfl
    clear hT0
    refine end_of 80 Tryz.func139 rfl rfl (by simp) ?_
    refine au ?_
    refine pl_op rfl rfl (opTo_boxN [.int .i64 op, .int .i64 v, .int .i64 n, .slice a l.length cap] rfl rfl rfl ?_)
    intro w1 x3 hx3 hs1 hk1 hX1
    refine au ?_
    refine pl_op rfl rfl (opTo_allocN _ rfl zero_pt ?_)
    intro w2 x5 hx5 hs2 hk2 hP2
    have hk02 := hk1.tr hk2
    have h2 := h.keep0 hk02
    have hX2 := hk2.blk hX1 (by simp)
    have hR2 : Rf w w2 := Rf.of0 hk02
    refine au ?_
    refine pl_val _ rfl rfl (val_load1 hT rfl rfl rfl (hX2.cell rfl)) ?_
    refine au ?_
    refine rn_ind (fun m σ w' => ∃ (i : Nat) (xs : List Int) (s' : Es), i ≤ l.length ∧ m = l.length - i ∧ xs.length = i ∧ σ = [(0, .pointer (some ⟨C.b, 0, none⟩)), (3, .pointer (some ⟨x3, 0, none⟩)), (5, .pointer (some ⟨x5, 0, none⟩)), (11, .slice a l.length cap), (12, .int .i64 (l.length : Nat)), (13, .int .i64 (i : Nat))] ∧
      TOT = bndX (evEs C.vs C.fuel (l.drop i) s') (fun c => bndX (tick C.fuel c.2) fun s2 => sayE C.vs op v n (xs ++ c.1) s2) ∧ Rt C w' s' ∧ s.n ≤ s'.n ∧ Rf w w' ∧ Blk w' x3 [.int .i64 op, .int .i64 v, .int .i64 n, .slice a l.length cap] 94 ∧ Blk w' x5 (pts xs) 175)
      l.length _ ?_ ⟨0, [], s, by omega, by omega, rfl, rfl, hT1, h2, Nat.le_refl _, hR2, hX2, hP2⟩ ?_
    · exact ⟨rfl, rfl, rfl, rfl, rfl, rfl, trivial⟩
    rintro m σ w6 ih ⟨i, xs, s', hi, rfl, hxs, rfl, hT6, h6, hn6, hR6, hX6, hP6⟩
    refine au ?_
    by_cases hlt : i < l.length
    · refine ye ?_
      have hxi : l[i]? = some l[i] := List.getElem?_eq_getElem hlt
      obtain ⟨b1, q1, c1, ci, hv1, hF1, hr1, hc1⟩ := hE.at hxi
      cases hv1
      have hszi := szEs_succ hxi
      have hszt := szEs_take l (i + 1)
      have hT7 : TOT = bndX (evE C.vs C.fuel l[i] s') fun y => bndX (evEs C.vs C.fuel (l.drop (i + 1)) y.2) fun c => bndX (tick C.fuel c.2) fun s2 => sayE C.vs op v n ((xs ++ [y.1]) ++ c.1) s2 := by
        rw [hT6, List.drop_eq_getElem_cons hlt]
        simp only [evEs]
        rw [bnd_assoc]
        congr 1
        funext y
        rw [bnd_assoc]
        congr 1
        funext c
        show bndX (tick C.fuel c.2) (fun s2 => sayE C.vs op v n (xs ++ y.1 :: c.1) s2) = _
        rw [show xs ++ y.1 :: c.1 = xs ++ [y.1] ++ c.1 by simp]
      refine au ?_
      refine pl_val _ rfl rfl (val_index i hT rfl rfl rfl rfl rfl hlt w6) ?_
      refine pl_val (.agg ci.toArray) rfl rfl (val_load ci hT rfl rfl (by rw [hc1.length]; rfl) (range_keep hr1 h6.kp (hC.hF _ hF1) (by simp))) ?_
      refine pl_op rfl rfl (opTo_allocN _ rfl zero_ie ?_)
      intro w7 x7 hx7 hs7 hk7 hb7
      refine au ?_
      refine pl_op rfl rfl (opTo_storeN ci rfl rfl rfl rfl (by rw [hc1.length]; exact size_ie) hb7 (by rw [hc1.length]; simp) hc1.one ?_)
      intro w8 hs8 hk8 hb8
      rw [splice_whole (by rw [hc1.length]; rfl)] at hb8
      have hk68 : Keep [] w6 w8 := hk7.trB hk8 (by omega)
      refine au ?_
      refine pl_val (.agg ci.toArray) rfl rfl (val_load ci hT rfl rfl (by rw [hc1.length]; rfl) (hb8.range (by simp))) ?_
      refine pl_opE Tryz.func139 rfl rfl (opE_call (fst := []) (cap := []) rfl rfl rfl rfl (by decide +kernel) (gos_step (ihs l[i] (by omega) (rnEs_at hrl hxi) hc1 (h6.keep0 hk68)) hT7 (hR6.tr (Rf.of0 hk68)) ?_))
      rintro ⟨y, s9⟩ r w9 hT9 ⟨rfl, hn9, h9⟩ hQ9 hR9
      have hX9 := hQ9.blk (hk68.blk hX6 (by simp)) neERu neELg
      have hP9 := hQ9.blk (hk68.blk hP6 (by simp)) nePRu nePLg
      have hge5 : w.heap.size ≤ x5 := by have := hk1.size; omega
      refine pl_val _ rfl rfl (val_indexArr i hT rfl rfl rfl rfl rfl (by omega) w9) ?_
      refine pl_op rfl rfl (opTo_storeN [.int .i64 y] rfl rfl rfl rfl size_rl hP9 (by simp [pts]; omega) (one_in _) ?_)
      intro w10 hs10 hk10 hb10
      rw [pts_put hxs (by omega)] at hb10
      refine au ?_
      refine pl_num (((i + 1 : Nat) : Int)) rfl rfl rfl rfl rfl (by simp only [ariP]; omega) ?_
      refine au ?_
      have h10 : Rt C w10 s9 := by
        obtain ⟨u, o, h9⟩ := h9
        refine ⟨u, o, h9.kp.trB hk10 (by have := h.kp.size; omega), hk10.blk h9.bk ?_, h9.un, h9.rc.keep hk10 (h9.rc.ne hP9 nePLg), h9.ro.keep hk10 (h9.ro.ne hP9 nePLg), h9.ap, h9.cl, h9.le, h9.ol⟩
        simp only [List.mem_singleton]
        exact Blk.ne h9.bk hP9 nePRu.symm
      have hX10 := hk10.blk hX9 (by simp only [List.mem_singleton]; exact Blk.ne hX9 hP9 (by decide))
      refine rn_sub ?_ (ih (l.length - (i + 1)) [(0, .pointer (some ⟨C.b, 0, none⟩)), (3, .pointer (some ⟨x3, 0, none⟩)), (5, .pointer (some ⟨x5, 0, none⟩)), (11, .slice (some ⟨b1, q1, none⟩) l.length cap), (12, .int .i64 (l.length : Nat)), (13, .int .i64 ((i + 1 : Nat) : Int))] w10 (by omega) ⟨i + 1, xs ++ [y], s9, by omega, rfl, by simp [hxs], rfl, hT9, h10, by dsimp only at hn9; omega, hR9.trB hk10 hge5, hX10, hb10⟩)
      exact ⟨rfl, rfl, rfl, rfl, rfl, rfl, trivial⟩
    · refine nay ?_
      rw [List.drop_of_length_le (by omega)] at hT6
      have hT7 : TOT = bndX (tick C.fuel s') fun s2 => sayE C.vs op v n xs s2 := by
        rw [hT6]
        show bndX (tick C.fuel s') (fun s2 => sayE C.vs op v n (xs ++ []) s2) = _
        rw [List.append_nil]
      clear hT6
      refine au ?_
      refine pl_opE Tryz.func139 rfl rfl (opE_call (fst := []) (cap := []) rfl rfl rfl rfl (by decide +kernel) (gos_step (iCount_end hC h6) hT7 hR6 ?_))
      rintro s8 r w8 hT8 ⟨rfl, hs8e, h8⟩ hQ8 hR8
      have hn8 : s.n ≤ s8.n := by rw [hs8e]; show s.n ≤ s'.n + 1; omega
      clear hs8e hT7
      have hX8 := hQ8.blk hX6 neERu neELg
      have hP8 := hQ8.blk hP6 nePRu nePLg
      refine au ?_
      refine rn_draw (fun w' => Keep [] w8 w') [] hMix ?_
      have hS : Keep [] w8 w8.drew := (Keep.refl _ _).drew
      generalize w8.drew = w9 at *
      refine dr_any 0 _ rfl (by decide +kernel) rfl rfl (fun w => val_indexArr 0 hT rfl rfl rfl rfl rfl (by omega) w) ?_
      refine dr_val 1 (.int .i64 (xs.getD 0 0)) rfl (by decide +kernel) rfl rfl (fun w9 hS9 => val_load1 hT rfl rfl rfl ((hS9.blk hP8 (by simp)).cell rfl)) hS ?_
      refine dr_any 2 _ rfl (by decide +kernel) rfl rfl (fun w => val_indexArr 1 hT rfl rfl rfl rfl rfl (by omega) w) ?_
      refine dr_val 3 (.int .i64 (xs.getD 1 0)) rfl (by decide +kernel) rfl rfl (fun w9 hS9 => val_load1 hT rfl rfl rfl ((hS9.blk hP8 (by simp)).cell rfl)) hS ?_
      refine tk 4 ?_
      refine tk 5 ?_
      refine dr_done (by decide +kernel) ?_
      replace h8 := h8.keep0 hS
      have hX9 := hS.blk hX8 (by simp)
      replace hR8 := hR8.tr (Rf.of0 hS)
      generalize hy0 : xs.getD 0 0 = y0 at *
      generalize hy1 : xs.getD 1 0 = y1 at *
      have hT9 := hT8
      unfold sayE at hT9
      rw [hy0, hy1] at hT9
      clear hT8
      refine au ?_
      refine pl_val _ rfl rfl (val_load1 hT rfl rfl rfl (hX9.cell rfl)) ?_
      refine au ?_
      by_cases h1 : op = 1
      · refine ye ?_
        rw [if_pos h1] at hT9
        refine au ?_
        refine pl_val _ rfl rfl (val_load1 hT rfl rfl rfl (hX9.cell rfl)) ?_
        refine au ?_
        exact rn_ret Tryz.func139 (.inl ⟨_, rfl, rfl⟩) ⟨_, hT9, ⟨rfl, hn8, h8⟩, hR8⟩
      refine nay ?_
      refine au ?_
      rw [if_neg h1] at hT9
      by_cases h2 : op = 2
      · obtain ⟨hv0, hvl⟩ := hvr (.inl h2)
        have hsz := size_pos hC.sz hv0 hvl
        refine ye ?_
        rw [if_pos h2] at hT9
        refine au ?_
        refine pl_val _ rfl rfl (val_load1 hT rfl rfl rfl (hX9.cell rfl)) ?_
        obtain ⟨u, o, h8⟩ := h8
        refine pl_opE Tryz.func139 rfl rfl (opE_call (fst := []) (cap := []) rfl rfl rfl rfl (by decide +kernel) ((iCell_end hC h8 v 0 hv0 hvl).mono ?_ ?_))
        rotate_left
        · rintro x w' ⟨hno, _⟩
          exfalso
          omega
        rintro r w10 ⟨_, hjl, ⟨g, cap, hcv, rfl⟩, hk10⟩
        have h10 := h8.keep0 hk10
        rw [Int.add_zero] at hjl ⊢
        obtain ⟨g', cap', hcv', hcell⟩ := h10.rc.at (cellAt_of hjl)
        have hgg : g = g' := by rw [hcv] at hcv'; injection hcv' with e1; injection e1 with e1; injection e1
        subst hgg
        refine au ?_
        refine pl_val _ rfl rfl (val_load1 hT rfl rfl rfl (hcell)) ?_
        refine au ?_
        exact rn_ret Tryz.func139 (.inl ⟨_, rfl, rfl⟩) ⟨_, hT9, ⟨rfl, hn8, u, o, h10⟩, hR8.tr (Rf.of0 hk10)⟩
      refine nay ?_
      refine au ?_
      rw [if_neg h2] at hT9
      by_cases h3 : op = 3
      · obtain ⟨hv0, hvl⟩ := hvr (.inr h3)
        refine ye ?_
        rw [if_pos h3] at hT9
        refine au ?_
        refine pl_val _ rfl rfl (val_load1 hT rfl rfl rfl (hX9.cell rfl)) ?_
        refine au ?_
        obtain ⟨u, o, h8⟩ := h8
        refine pl_opE Tryz.func139 rfl rfl (opE_call (fst := []) (cap := []) rfl rfl rfl rfl (by decide +kernel) ((iCell_end hC h8 v y0 hv0 hvl).mono ?_ ?_))
        rotate_left
        · rintro x w' ⟨hno, rfl, hk10⟩
          rw [if_neg hno] at hT9
          exact ⟨_, hT9, rfl, ⟨u, o, h8.keep0 hk10⟩, hR8.tr (Rf.of0 hk10)⟩
        rintro r w10 ⟨hyes, hjl, ⟨g, cap, hcv, rfl⟩, hk10⟩
        rw [if_pos hyes] at hT9
        have h10 := h8.keep0 hk10
        obtain ⟨g', cap', hcv', hcell⟩ := h10.rc.at (cellAt_of hjl)
        have hgg : g = g' := by rw [hcv] at hcv'; injection hcv' with e1; injection e1 with e1; injection e1
        subst hgg
        refine au ?_
        refine pl_val _ rfl rfl (val_load1 hT rfl rfl rfl (hcell)) ?_
        refine au ?_
        exact rn_ret Tryz.func139 (.inl ⟨_, rfl, rfl⟩) ⟨_, hT9, ⟨rfl, hn8, u, o, h10⟩, hR8.tr (Rf.of0 hk10)⟩
      refine nay ?_
      refine au ?_
      rw [if_neg h3] at hT9
      unfold ariI at hT9
      by_cases h4 : op = 4
      · refine ye ?_
        rw [if_pos h4] at hT9
        refine au ?_
        refine pl_val _ rfl rfl (val_int _ _ _ _ rfl rfl rfl (by rfl) _) ?_
        refine au ?_
        exact rn_ret Tryz.func139 (.inl ⟨_, rfl, rfl⟩) ⟨_, hT9, ⟨rfl, hn8, h8⟩, hR8⟩
      refine nay ?_
      refine au ?_
      rw [if_neg h4] at hT9
      by_cases h5 : op = 5
      · refine ye ?_
        rw [if_pos h5] at hT9
        refine au ?_
        refine pl_val _ rfl rfl (val_int _ _ _ _ rfl rfl rfl (by rfl) _) ?_
        refine au ?_
        exact rn_ret Tryz.func139 (.inl ⟨_, rfl, rfl⟩) ⟨_, hT9, ⟨rfl, hn8, h8⟩, hR8⟩
      refine nay ?_
      refine au ?_
      rw [if_neg h5] at hT9
      by_cases h6' : op = 6
      · refine ye ?_
        rw [if_pos h6'] at hT9
        refine au ?_
        refine pl_val _ rfl rfl (val_int _ _ _ _ rfl rfl rfl (by rfl) _) ?_
        refine au ?_
        exact rn_ret Tryz.func139 (.inl ⟨_, rfl, rfl⟩) ⟨_, hT9, ⟨rfl, hn8, h8⟩, hR8⟩
      refine nay ?_
      refine au ?_
      rw [if_neg h6'] at hT9
      by_cases h7 : op = 7
      · refine ye ?_
        rw [if_pos h7] at hT9
        refine au ?_
        refine pl_val _ rfl rfl (val_int _ _ _ _ rfl rfl rfl (by rfl) _) ?_
        refine pl_op rfl rfl (opTo_call (fst := []) (cap := []) rfl rfl rfl rfl (by decide +kernel) ((iTruth_ret _ _).mono ?_))
        rintro r w' ⟨rfl, rfl⟩
        refine au ?_
        exact rn_ret Tryz.func139 (.inl ⟨_, rfl, rfl⟩) ⟨_, hT9, ⟨rfl, hn8, h8⟩, hR8⟩
      refine nay ?_
      refine au ?_
      rw [if_neg h7] at hT9
      refine pl_val _ rfl rfl (val_int _ _ _ _ rfl rfl rfl (by rfl) _) ?_
      refine pl_op rfl rfl (opTo_call (fst := []) (cap := []) rfl rfl rfl rfl (by decide +kernel) ((iTruth_ret _ _).mono ?_))
      rintro r w' ⟨rfl, rfl⟩
      refine au ?_
      exact rn_ret Tryz.func139 (.inl ⟨_, rfl, rfl⟩) ⟨_, hT9, ⟨rfl, hn8, h8⟩, hR8⟩
end E
end Go.Proofs.YtmplkogkphmmjafGreat

/- The landed package ideal: what its statements do, as mathematics; contracts of asked, chosen. -/
namespace Go.Proofs.YtmplkogkphmmjafGreat
set_option maxRecDepth 20000
set_option maxHeartbeats 4000000
namespace E
open Go.Proofs

/-- What a statement's expressions say. -/
def askX (C : Kx) (op : Int) (e f : ET) (s : Es) : Ex (Int × Int × Es) :=
  bndX (if needE op then evE C.vs C.fuel e s else .ok (0, s)) fun a => bndX (if needF op then evE C.vs C.fuel f a.2 else .ok (0, a.2)) fun c => .ok (a.1, c.1, c.2)
/-- A body, if a number says so. -/
def chX (C : Kx) (x : Int) (b : List ST) (s : Es) : Ex (Bool × Es) :=
  if x = 0 then .ok (false, s) else bndX (evSs C.vs C.inp C.fuel b s) fun s3 => bndX (tick C.fuel s3) fun s4 => .ok (true, s4)
/-- What a statement does, once; whether it is to be done again. -/
def doX (C : Kx) (op v x y : Int) (b o : List ST) (s : Es) : Ex (Bool × Es) :=
  if op = 5 then chX C x b s
  else if op = 6 then bndX (chX C x b s) fun c => if c.1 = true then .ok (false, c.2) else bndX (evSs C.vs C.inp C.fuel o c.2) fun s3 => .ok (false, s3)
  else bndX (sayS C.vs C.inp op v x y s) fun s3 => .ok (false, s3)
def agX (C : Kx) : ST → Es → Ex (Bool × Es)
  | .mk op v e f b o, s => bndX (askX C op e f s) fun a => bndX (tick C.fuel a.2.2) fun s2 => doX C op v a.1 a.2.1 b o s2
/-- So often at most. -/
def loA (C : Kx) (t : ST) : Nat → Es → Ex Es
  | 0, s => .error (13, s)
  | g + 1, s => bndX (agX C t s) fun a => if a.1 = true then loA C t g a.2 else .ok a.2
theorem ask_one (C : Kx) {op : Int} (e f : ET) (s : Es) (h1 : needE op = true) (h2 : needF op = false) : askX C op e f s = bndX (evE C.vs C.fuel e s) fun a => .ok (a.1, 0, a.2) := by
  unfold askX
  rw [h1, h2]
  simp only [if_true, Bool.false_eq_true, if_false]
  cases evE C.vs C.fuel e s <;> rfl
theorem loop_loA (C : Kx) {op v : Int} {e f : ET} {b o : List ST} (h : op = 5) : ∀ (g : Nat) (s : Es), loopX C.fuel (evE C.vs C.fuel e) (evSs C.vs C.inp C.fuel b) g s = loA C (.mk op v e f b o) g s
  | 0, s => rfl
  | g + 1, s => by
    simp only [loopX, loA, agX]
    rw [ask_one C e f s (by rw [h]; rfl) (by rw [h]; rfl)]
    simp only [bnd_assoc]
    congr 1
    funext a
    show _ = bndX (tick C.fuel a.2) _
    congr 1
    funext s2
    unfold doX chX
    rw [if_pos h]
    by_cases h0 : a.1 = 0
    · rw [if_pos h0, if_pos h0]
      rfl
    · rw [if_neg h0, if_neg h0, bnd_assoc]
      congr 1
      funext s3
      rw [bnd_assoc]
      congr 1
      funext s4
      exact loop_loA C h g s4
theorem evS_once (C : Kx) {op v : Int} {e f : ET} {b o : List ST} (h : ¬ op = 5) (s : Es) : agX C (.mk op v e f b o) s = bndX (evS C.vs C.inp C.fuel (.mk op v e f b o) s) fun s1 => .ok (false, s1) := by
  simp only [agX, evS]
  rw [if_neg h]
  by_cases h6 : op = 6
  · rw [ask_one C e f s (by rw [h6]; rfl) (by rw [h6]; rfl), if_pos h6]
    simp only [bnd_assoc]
    congr 1
    funext a
    show bndX (tick C.fuel a.2) _ = _
    congr 1
    funext s2
    unfold doX chX
    rw [if_neg h, if_pos h6]
    by_cases h0 : a.1 = 0
    · rw [if_pos h0, if_pos h0]
      rfl
    · rw [if_neg h0, if_neg h0, bnd_assoc, bnd_assoc]
      congr 1
      funext s3
      rw [bnd_assoc]
      rfl
  · rw [if_neg h6]
    unfold askX
    simp only [bnd_assoc]
    congr 1
    funext a
    congr 1
    funext c
    show bndX (tick C.fuel c.2) _ = _
    congr 1
    funext s2
    unfold doX
    rw [if_neg h, if_neg h6]
theorem evS_loA (C : Kx) (t : ST) (s : Es) : evS C.vs C.inp C.fuel t s = loA C t (C.fuel + 1) s := by
  obtain ⟨op, v, e, f, b, o⟩ := t
  by_cases h : op = 5
  · rw [← loop_loA C h]
    simp only [evS]
    rw [if_pos h]
  · simp only [loA]
    rw [evS_once C h, bnd_assoc]
    exact bnd_id _

section
variable {C : Kx} {w w1 w2 : World} {u o : Value} {s : Es}
/-- One more was printed. -/
theorem Ru.print (hC : C.Ok) (h : Ru C w u o s) (hn : s.out.length + 1 ≤ s.n) {o' : Value} {n : Int} (hk1 : Keep (obs o) w w1) (hrow : RowL w1 C.w0.heap.size o' (s.out ++ [n])) (hob : ∀ x ∈ obs o', x ∈ obs o ∨ w.heap.size ≤ x) (hk : Keep [C.b] w1 w2) (hb : Blk w2 C.b (ruC C s.n u o') tRu) : Ru C w2 u o' { s with out := s.out ++ [n] } ∧ Rf w w2 := by
  have hbk1 := hk1.blk h.bk fun hm => h.ro.ne h.bk neRuL C.b hm (by simp)
  have hrc1 := h.rc.keep hk1 fun x hx hm => h.ap x hx hm
  refine ⟨⟨(h.kp.trans hk1 fun x hx => .inr (h.ro.lt x hx).1).trB hk hC.ge, hb, h.un, hrc1.keep hk (hrc1.ne hbk1 neRuL), hrow.keep hk (hrow.ne hbk1 neRuL), fun x hx hm => ?_, h.cl, h.le, by show (s.out ++ [n]).length ≤ s.n; simp; omega⟩, ?_⟩
  · rcases hob x hm with h2 | h2
    · exact h.ap x hx h2
    · have := (h.rc.lt x hx).2; omega
  · refine (Rf.of hk1 fun k hm => ?_).tr (Rf.of hk fun k hm => ⟨ruC C s.n u o, tRu, by rw [List.mem_singleton.1 hm]; exact hbk1, .inl rfl⟩)
    obtain ⟨L, hL⟩ := h.ro.blk k hm
    exact ⟨L, tLg, hL, .inr rfl⟩

theorem neSRu : 97 ≠ tRu := by decide
theorem neSLg : 97 ≠ tLg := by decide
theorem iAsked_end (hC : C.Ok) {op v : Int} {e f : ET} {b' o' : List ST} {cs : List Value} (hrn : rnS C.vs.length (.mk op v e f b' o')) (hS : StmtV C.F C.w0 cs (.mk op v e f b' o')) (h : Rt C w s) :
    Gos C 125 [.pointer (some ⟨C.b, 0, none⟩), .agg cs.toArray] w (askX C op e f s) fun a r w' => r = .tuple #[.int .i64 a.1, .int .i64 a.2.1] ∧ s.n ≤ a.2.2.n ∧ Rt C w' a.2.2 := by
  obtain ⟨_, _, _, hrE, hrF, _, _⟩ := hrn
  obtain ⟨ce, cf, bv, ov, rfl, he, hf, hb, ho⟩ := hS.inv
  obtain ⟨ba, bc, rfl⟩ := hb.form
  obtain ⟨oa, oc, rfl⟩ := ho.form
  obtain ⟨e0, e1, e2, e3, rfl⟩ := list4 he.length
  obtain ⟨f0, f1, f2, f3, rfl⟩ := list4 hf.length
  obtain ⟨TOT, hT0⟩ : ∃ TOT, TOT = askX C op e f s := ⟨_, rfl⟩
  rw [← hT0]
  unfold askX at hT0
  refine end_of 32 Tryz.func125 rfl rfl (by simp) ?_
  refine au ?_
  refine pl_op rfl rfl (opTo_boxN [.int .i64 op, .int .i64 v, e0, e1, e2, e3, f0, f1, f2, f3, .slice ba b'.length bc, .slice oa o'.length oc] rfl rfl rfl ?_)
  intro w1 x3 hx3 hs1 hk1 hX1
  have h1 := h.keep0 hk1
  refine au ?_
  refine pl_val _ rfl rfl (val_load1 hT rfl rfl rfl (hX1.cell rfl)) ?_
  refine pl_op rfl rfl (opTo_call (fst := []) (cap := []) rfl rfl rfl rfl (by decide +kernel) ((has_ret op w1).mono ?_))
  rintro r w1' ⟨rfl, hww⟩
  rw [hww]
  unfold hasV
  obtain ⟨qe, hqe⟩ : ∃ q, q = needE op := ⟨_, rfl⟩
  obtain ⟨qf, hqf⟩ : ∃ q, q = needF op := ⟨_, rfl⟩
  rw [← hqe] at hT0 hrE ⊢
  rw [← hqf] at hT0 hrF ⊢
  refine auj ?_
  refine rn_seq ?_
  refine rn_with (fun σ' w' => ∃ (x : Int) (s2 : Es), TOT = bndX (if qf then evE C.vs C.fuel f s2 else .ok (0, s2)) (fun c => .ok (x, c.1, c.2)) ∧ Rt C w' s2 ∧ s.n ≤ s2.n ∧ Rf w w' ∧ Blk w' x3 [.int .i64 op, .int .i64 v, e0, e1, e2, e3, f0, f1, f2, f3, .slice ba b'.length bc, .slice oa o'.length oc] 97 ∧ Sub [(0, .pointer (some ⟨C.b, 0, none⟩)), (3, .pointer (some ⟨x3, 0, none⟩)), (4, .int .i64 x), (5, .int .i64 0), (7, .bool qf)] σ') ?_ ?_
  rotate_left
  · intro fin
    refine rn_seq ?_
    refine rn_plain ?_
    cases qe with
    | false =>
      refine auj ?_
      exact fin _ _ ⟨0, s, by rw [hT0]; rfl, h1, Nat.le_refl _, Rf.of0 hk1, hX1, rfl, rfl, rfl, rfl, rfl, trivial⟩
    | true =>
      rw [if_pos rfl] at hT0
      refine auj ?_
      refine rn_plain ?_
      refine auj ?_
      refine pl_val (.agg #[e0, e1, e2, e3]) rfl rfl (val_load [e0, e1, e2, e3] hT rfl rfl rfl (hX1.range (by rfl))) ?_
      refine pl_opE Tryz.func125 rfl rfl (opE_call (fst := []) (cap := []) rfl rfl rfl rfl (by decide +kernel) (gos_step (iexpr_end hC (szE e + 1) e (by omega) (hrE rfl) he h1) hT0 (Rf.of0 hk1) ?_))
      rintro ⟨y, s2⟩ r w2 hT2 ⟨rfl, hn2, h2⟩ hQ2 hR2
      refine auj ?_
      exact fin _ _ ⟨y, s2, hT2, h2, hn2, hR2, hQ2.blk hX1 neSRu neSLg, rfl, rfl, rfl, rfl, rfl, trivial⟩
  · rintro σ' w2 ⟨x, s2, hT2, h2, hn2, hR2, hX2, hsub⟩
    refine rn_sub hsub ?_
    refine rn_seq ?_
    refine rn_with (fun σ' w' => ∃ (y : Int) (s3 : Es), TOT = .ok (x, y, s3) ∧ Rt C w' s3 ∧ s.n ≤ s3.n ∧ Rf w w' ∧ Sub [(4, .int .i64 x), (5, .int .i64 y)] σ') ?_ ?_
    rotate_left
    · intro fin
      refine rn_seq ?_
      refine rn_plain ?_
      cases qf with
      | false =>
        refine auj ?_
        exact fin _ _ ⟨0, s2, by rw [hT2]; rfl, h2, hn2, hR2, rfl, rfl, trivial⟩
      | true =>
        rw [if_pos rfl] at hT2
        refine auj ?_
        refine rn_plain ?_
        refine auj ?_
        refine pl_val (.agg #[f0, f1, f2, f3]) rfl rfl (val_load [f0, f1, f2, f3] hT rfl rfl rfl (hX2.range (by rfl))) ?_
        refine pl_opE Tryz.func125 rfl rfl (opE_call (fst := []) (cap := []) rfl rfl rfl rfl (by decide +kernel) (gos_step (iexpr_end hC (szE f + 1) f (by omega) (hrF rfl) hf h2) hT2 hR2 ?_))
        rintro ⟨y, s3⟩ r w3 hT3 ⟨rfl, hn3, h3⟩ hQ3 hR3
        refine auj ?_
        exact fin _ _ ⟨y, s3, hT3, h3, Nat.le_trans hn2 hn3, hR3, rfl, rfl, trivial⟩
    · rintro σ' w3 ⟨y, s3, hT3, h3, hn3, hR3, hsub⟩
      refine rn_sub hsub ?_
      refine au ?_
      exact rn_ret Tryz.func125 (.inr (.inr (.inr (.inr ⟨_, _, _, _, rfl, rfl, rfl, rfl⟩)))) ⟨(x, y, s3), hT3, ⟨rfl, hn3, h3⟩, hR3⟩
end
end E
end Go.Proofs.YtmplkogkphmmjafGreat

/- The landed package ideal: contracts of chosen, again, stmts. -/
namespace Go.Proofs.YtmplkogkphmmjafGreat
set_option maxRecDepth 20000
set_option maxHeartbeats 4000000
namespace E
open Go.Proofs

/-- stmts does for what is smaller. -/
def StI (C : Kx) (z : Nat) : Prop := ∀ (l : List ST), szSs l < z → rnSs C.vs.length l → ∀ {w : World} {lv : Value} {s : Es}, StmtsV C.F C.w0 lv l → Rt C w s →
    Gos C 74 [.pointer (some ⟨C.b, 0, none⟩), lv] w (evSs C.vs C.inp C.fuel l s) fun s' r w' => r = .tuple #[] ∧ s.n ≤ s'.n ∧ Rt C w' s'
/-- again does for what is smaller. -/
def AgI (C : Kx) (z : Nat) : Prop := ∀ (t : ST), szS t < z → rnS C.vs.length t → ∀ {w : World} {cs : List Value} {s : Es}, StmtV C.F C.w0 cs t → Rt C w s →
    Gos C 97 [.pointer (some ⟨C.b, 0, none⟩), .agg cs.toArray] w (agX C t s) fun a r w' => r = .bool a.1 ∧ s.n ≤ a.2.n ∧ (a.1 = true → s.n < a.2.n) ∧ Rt C w' a.2

section
variable {C : Kx} {w : World} {s : Es}
theorem iChosen_end (hC : C.Ok) {z : Nat} (hS : StI C z) (x : Int) {l : List ST} (hz : szSs l < z) (hrn : rnSs C.vs.length l) {lv : Value} (hl : StmtsV C.F C.w0 lv l) (h : Rt C w s) :
    Gos C 128 [.pointer (some ⟨C.b, 0, none⟩), .int .i64 x, lv] w (chX C x l s) fun a r w' => r = .bool a.1 ∧ s.n ≤ a.2.n ∧ (a.1 = true → s.n < a.2.n) ∧ Rt C w' a.2 := by
  obtain ⟨la, lc, rfl⟩ := hl.form
  obtain ⟨TOT, hT0⟩ : ∃ TOT, TOT = chX C x l s := ⟨_, rfl⟩
  rw [← hT0]
  unfold chX at hT0
  refine end_of 16 Tryz.func128 rfl rfl (by simp) ?_
  refine au ?_
  by_cases h0 : x = 0
  · refine ye ?_
    rw [if_pos h0] at hT0
    refine au ?_
    exact rn_ret Tryz.func128 (.inl ⟨_, rfl, rfl⟩) ⟨_, hT0, ⟨rfl, Nat.le_refl _, fun h => (by cases h), h⟩, Rf.refl _⟩
  · refine nay ?_
    rw [if_neg h0] at hT0
    refine au ?_
    refine pl_opE Tryz.func128 rfl rfl (opE_call (fst := []) (cap := []) rfl rfl rfl rfl (by decide +kernel) (gos_step (hS l hz hrn hl h) hT0 (Rf.refl _) ?_))
    rintro s1 r w1 hT1 ⟨rfl, hn1, h1⟩ hQ1 hR1
    refine au ?_
    refine pl_opE Tryz.func128 rfl rfl (opE_call (fst := []) (cap := []) rfl rfl rfl rfl (by decide +kernel) (gos_step (iCount_end hC h1) hT1 hR1 ?_))
    rintro s2 r w2 hT2 ⟨rfl, hs2, h2⟩ hQ2 hR2
    have hn2 : s.n < s2.n := by rw [hs2]; show s.n < s1.n + 1; omega
    refine au ?_
    exact rn_ret Tryz.func128 (.inl ⟨_, rfl, rfl⟩) ⟨_, hT2, ⟨rfl, Nat.le_of_lt hn2, fun _ => hn2, h2⟩, hR2⟩

theorem iAgain_end (hC : C.Ok) {z : Nat} (hS : StI C z) : AgI C (z + 1) := by
  intro t ht hrn w cs s hSt h
  obtain ⟨op, v, e, f, b', o'⟩ := t
  have hSt0 := hSt
  have hrn0 := hrn
  obtain ⟨ho1, ho7, hvr, hrE, hrF, hrb, hro⟩ := hrn
  obtain ⟨ce, cf, bv, ov, rfl, he, hf, hb, ho⟩ := hSt.inv
  obtain ⟨ba, bc, rfl⟩ := hb.form
  obtain ⟨oa, oc, rfl⟩ := ho.form
  obtain ⟨e0, e1, e2, e3, rfl⟩ := list4 he.length
  obtain ⟨f0, f1, f2, f3, rfl⟩ := list4 hf.length
  simp only [szS] at ht
  obtain ⟨TOT, hT0⟩ : ∃ TOT, TOT = agX C (.mk op v e f b' o') s := ⟨_, rfl⟩
  rw [← hT0]
  simp only [agX] at hT0
  refine end_of 76 Tryz.func97 rfl rfl (by simp) ?_
  refine au ?_
  refine pl_op rfl rfl (opTo_boxN [.int .i64 op, .int .i64 v, e0, e1, e2, e3, f0, f1, f2, f3, .slice ba b'.length bc, .slice oa o'.length oc] rfl rfl rfl ?_)
  intro w1 x3 hx3 hs1 hk1 hX1
  have h1 := h.keep0 hk1
  refine au ?_
  refine pl_val (.agg #[.int .i64 op, .int .i64 v, e0, e1, e2, e3, f0, f1, f2, f3, .slice ba b'.length bc, .slice oa o'.length oc]) rfl rfl (val_load [.int .i64 op, .int .i64 v, e0, e1, e2, e3, f0, f1, f2, f3, .slice ba b'.length bc, .slice oa o'.length oc] hT rfl rfl rfl (hX1.range (by rfl))) ?_
  refine pl_opE Tryz.func97 rfl rfl (opE_call (fst := []) (cap := []) rfl rfl rfl rfl (by decide +kernel) (gos_step (iAsked_end hC hrn0 hSt0 h1) hT0 (Rf.of0 hk1) ?_))
  rintro ⟨x, y, s2⟩ r w2 hT2 ⟨rfl, hn2, h2⟩ hQ2 hR2
  have hX2 := hQ2.blk hX1 neSRu neSLg
  dsimp only at hT2 hn2 h2
  have hol2 : s2.out.length ≤ s2.n := let ⟨_, _, h⟩ := h2; h.ol
  refine au ?_
  refine pl_opE Tryz.func97 rfl rfl (opE_call (fst := []) (cap := []) rfl rfl rfl rfl (by decide +kernel) (gos_step (iCount_end hC h2) hT2 hR2 ?_))
  rintro s3 r w3 hT3 ⟨rfl, hs3e, h3⟩ hQ3 hR3
  have hX3 := hQ3.blk hX2 neSRu neSLg
  have hn3 : s.n ≤ s3.n := by rw [hs3e]; show s.n ≤ s2.n + 1; omega
  have hol3 : s3.out.length + 1 ≤ s3.n := by rw [hs3e]; show s2.out.length + 1 ≤ s2.n + 1; omega
  clear hs3e hT2 hT0
  unfold doX at hT3
  refine au ?_
  refine pl_val _ rfl rfl (val_load1 hT rfl rfl rfl (hX3.cell rfl)) ?_
  refine au ?_
  by_cases c1 : op = 1
  · obtain ⟨hv0, hvl⟩ := hvr (by rw [c1]; rfl)
    have hsz := size_pos hC.sz hv0 hvl
    refine ye ?_
    rw [if_neg (by omega), if_neg (by omega)] at hT3
    unfold sayS at hT3
    rw [if_pos c1] at hT3
    refine au ?_
    refine pl_val _ rfl rfl (val_load1 hT rfl rfl rfl (hX3.cell rfl)) ?_
    obtain ⟨u, o, h3⟩ := h3
    refine pl_opE Tryz.func97 rfl rfl (opE_call (fst := []) (cap := []) rfl rfl rfl rfl (by decide +kernel) ((iCell_end hC h3 v 0 hv0 hvl).mono ?_ ?_))
    rotate_left
    · rintro x w' ⟨hno, _⟩
      exfalso
      omega
    rintro r w4 ⟨_, hjl, ⟨g, cap, hcv, rfl⟩, hk4⟩
    have h4 := h3.keep0 hk4
    rw [Int.add_zero] at hjl ⊢
    obtain ⟨cur, hcb, hcl, hput⟩ := h4.set hjl hcv
    refine au ?_
    refine pl_op rfl rfl (opTo_storeN [.int .i64 x] rfl rfl rfl rfl size_rl hcb (by simp; omega) (one_in _) ?_)
    intro w5 hs5 hk5 hb5
    obtain ⟨h5, hR5⟩ := hput hk5 hb5
    refine au ?_
    exact rn_ret Tryz.func97 (.inl ⟨_, rfl, rfl⟩) ⟨_, hT3, ⟨rfl, hn3, fun h => (by cases h), u, o, h5⟩, (hR3.tr (Rf.of0 hk4)).tr hR5⟩
  refine nay ?_
  refine au ?_
  by_cases c2 : op = 2
  · obtain ⟨hv0, hvl⟩ := hvr (by rw [c2]; rfl)
    refine ye ?_
    rw [if_neg (by omega), if_neg (by omega)] at hT3
    unfold sayS at hT3
    rw [if_neg c1, if_pos c2] at hT3
    refine au ?_
    refine pl_val _ rfl rfl (val_load1 hT rfl rfl rfl (hX3.cell rfl)) ?_
    refine au ?_
    obtain ⟨u, o, h3⟩ := h3
    refine pl_opE Tryz.func97 rfl rfl (opE_call (fst := []) (cap := []) rfl rfl rfl rfl (by decide +kernel) ((iCell_end hC h3 v x hv0 hvl).mono ?_ ?_))
    rotate_left
    · rintro x' w' ⟨hno, rfl, hk4⟩
      rw [if_neg hno] at hT3
      exact ⟨_, hT3, rfl, ⟨u, o, h3.keep0 hk4⟩, hR3.tr (Rf.of0 hk4)⟩
    rintro r w4 ⟨hyes, hjl, ⟨g, cap, hcv, rfl⟩, hk4⟩
    rw [if_pos hyes] at hT3
    have h4 := h3.keep0 hk4
    obtain ⟨cur, hcb, hcl, hput⟩ := h4.set hjl hcv
    refine au ?_
    refine pl_op rfl rfl (opTo_storeN [.int .i64 y] rfl rfl rfl rfl size_rl hcb (by simp; omega) (one_in _) ?_)
    intro w5 hs5 hk5 hb5
    obtain ⟨h5, hR5⟩ := hput hk5 hb5
    refine au ?_
    exact rn_ret Tryz.func97 (.inl ⟨_, rfl, rfl⟩) ⟨_, hT3, ⟨rfl, hn3, fun h => (by cases h), u, o, h5⟩, (hR3.tr (Rf.of0 hk4)).tr hR5⟩
  refine nay ?_
  refine au ?_
  by_cases c3 : op = 3
  · refine ye ?_
    rw [if_neg (by omega), if_neg (by omega)] at hT3
    unfold sayS at hT3
    rw [if_neg c1, if_neg c2, if_pos c3] at hT3
    obtain ⟨u, o, h3⟩ := h3
    have hfu := hC.fu
    have hle3 := h3.le
    obtain ⟨oa', oc', rfl⟩ := h3.ro.form
    refine au ?_
    refine pl_val _ rfl rfl (val_load1 hT rfl rfl rfl (h3.bk.cell rfl)) ?_
    refine au ?_
    refine pl_op rfl rfl (opTo_sliceN tLg [.int .i64 x] rfl rfl (slice_lg x) ?_)
    intro w4 g hg hs4 hk4 hb4
    have h4 := h3.keep0 hk4
    refine pl_op rfl rfl (opTo_app C.w0.heap.size tLg 1 8 (lgs s3.out) [.int .i64 x] rfl rfl rfl app_lg h4.ro (hb4.range rfl) rfl (one_v rfl) (by decide) (by unfold maxLen; omega) (by omega) h4.kp.size ?_)
    intro g2 cap w5 hown5 hcase
    have hrow5 : RowL w5 C.w0.heap.size (.slice (some ⟨g2, 0, none⟩) (s3.out.length + 1) cap) (s3.out ++ [x]) := by
      have e1 : (s3.out ++ [x]).length = s3.out.length + 1 := by simp
      have e2 : lgs (s3.out ++ [x]) = lgs s3.out ++ [.int .i64 x] := by rw [lgs_app]; rfl
      unfold RowL
      rw [e1, e2]
      exact hown5
    have hk5 : Keep (obs (.slice oa' s3.out.length oc')) w4 w5 := by
      rcases hcase with ⟨h3, _, h4⟩ | ⟨_, h4, _⟩
      · rw [obs, h3]; exact h4
      · exact h4.of0
    have hob : ∀ x ∈ obs (.slice (some ⟨g2, 0, none⟩) (s3.out.length + 1) cap), x ∈ obs (.slice oa' s3.out.length oc') ∨ w4.heap.size ≤ x := fun x hx => by
      have hx : x = g2 := by simpa [obs, Value.ownBlock] using hx
      subst hx
      rcases hcase with ⟨h3, _, _⟩ | ⟨h3, _, _⟩
      · exact .inl (mem_obs.2 h3)
      · exact .inr (by omega)
    refine au ?_
    refine pl_op rfl rfl (opTo_storeN [.slice (some ⟨g2, 0, none⟩) (s3.out.length + 1) cap] rfl rfl rfl rfl size_rs (hk5.blk h4.bk fun hm => h4.ro.ne h4.bk neRuL C.b hm (by simp)) (by simp [ruC]) (one_v rfl) ?_)
    intro w6 hs6 hk6 hb6
    obtain ⟨h6, hR6⟩ := h4.print hC hol3 hk5 hrow5 hob hk6 hb6
    refine au ?_
    exact rn_ret Tryz.func97 (.inl ⟨_, rfl, rfl⟩) ⟨_, hT3, ⟨rfl, hn3, fun h => (by cases h), u, _, h6⟩, (hR3.tr (Rf.of0 hk4)).tr hR6⟩
  refine nay ?_
  refine au ?_
  by_cases c4 : op = 4
  · obtain ⟨hv0, hvl⟩ := hvr (by rw [c4]; rfl)
    have hsz := size_pos hC.sz hv0 hvl
    refine ye ?_
    rw [if_neg (by omega), if_neg (by omega)] at hT3
    have hT4 : TOT = bndX (readX C.inp s3) fun a => .ok (false, { a.2 with cells := s3.cells.set (cellOf C.vs v).toNat a.1 }) := by
      rw [hT3]
      unfold sayS readX
      rw [if_neg c1, if_neg c2, if_neg c3, if_pos c4]
      split <;> rfl
    refine au ?_
    refine pl_val _ rfl rfl (val_load1 hT rfl rfl rfl (hX3.cell rfl)) ?_
    obtain ⟨u, o, h3⟩ := h3
    refine pl_opE Tryz.func97 rfl rfl (opE_call (fst := []) (cap := []) rfl rfl rfl rfl (by decide +kernel) ((iCell_end hC h3 v 0 hv0 hvl).mono ?_ ?_))
    rotate_left
    · rintro x w' ⟨hno, _⟩
      exfalso
      omega
    rintro r w4 ⟨_, hjl, ⟨g, cap, hcv, rfl⟩, hk4⟩
    rw [Int.add_zero] at hjl ⊢
    refine au ?_
    refine pl_opE Tryz.func97 rfl rfl (opE_call (fst := []) (cap := []) rfl rfl rfl rfl (by decide +kernel) (gos_step (iRead_end hC ⟨u, o, h3.keep0 hk4⟩) hT4 (hR3.tr (Rf.of0 hk4)) ?_))
    rintro ⟨y', s5⟩ r w5 hT5 ⟨rfl, hs5, u5, o5, h5⟩ hQ5 hR5
    dsimp only at hs5 hT5 h5
    subst hs5
    obtain ⟨cur, hcb, hcl, hput⟩ := h5.set (j := (cellOf C.vs v).toNat) hjl hcv
    refine au ?_
    refine pl_op rfl rfl (opTo_storeN [.int .i64 y'] rfl rfl rfl rfl size_rl hcb (by simp; omega) (one_in _) ?_)
    intro w6 hs6 hk6 hb6
    obtain ⟨h6, hR6⟩ := hput hk6 hb6
    refine au ?_
    exact rn_ret Tryz.func97 (.inl ⟨_, rfl, rfl⟩) ⟨_, hT5, ⟨rfl, hn3, fun h => (by cases h), u5, o5, h6⟩, hR5.tr hR6⟩
  refine nay ?_
  refine au ?_
  by_cases c5 : op = 5
  · refine ye ?_
    rw [if_pos c5] at hT3
    refine au ?_
    refine pl_val _ rfl rfl (val_load1 hT rfl rfl rfl (hX3.cell rfl)) ?_
    refine pl_opE Tryz.func97 rfl rfl (opE_call (fst := []) (cap := []) rfl rfl rfl rfl (by decide +kernel) (gos_step (iChosen_end hC hS x (by omega) hrb hb h3) (hT3.trans (bnd_id _)) hR3 ?_))
    rintro ⟨q, s4⟩ r w4 hT4 ⟨rfl, hn4, hlt4, h4⟩ hQ4 hR4
    refine au ?_
    exact rn_ret Tryz.func97 (.inl ⟨_, rfl, rfl⟩) ⟨_, hT4, ⟨rfl, Nat.le_trans hn3 hn4, fun h => Nat.lt_of_le_of_lt hn3 (hlt4 h), h4⟩, hR4⟩
  refine nay ?_
  refine au ?_
  rw [if_neg c5] at hT3
  by_cases c6 : op = 6
  · refine ye ?_
    rw [if_pos c6] at hT3
    refine au ?_
    refine pl_val _ rfl rfl (val_load1 hT rfl rfl rfl (hX3.cell rfl)) ?_
    refine pl_opE Tryz.func97 rfl rfl (opE_call (fst := []) (cap := []) rfl rfl rfl rfl (by decide +kernel) (gos_step (iChosen_end hC hS x (by omega) hrb hb h3) hT3 hR3 ?_))
    rintro ⟨q, s4⟩ r w4 hT4 ⟨rfl, hn4, hlt4, h4⟩ hQ4 hR4
    dsimp only at hT4 hn4 h4
    have hX4 := hQ4.blk hX3 neSRu neSLg
    cases q with
    | true =>
      rw [if_pos rfl] at hT4
      refine au ?_
      exact rn_ret Tryz.func97 (.inl ⟨_, rfl, rfl⟩) ⟨_, hT4, ⟨rfl, Nat.le_trans hn3 hn4, fun h => (by cases h), h4⟩, hR4⟩
    | false =>
      rw [if_neg (by decide)] at hT4
      refine au ?_
      refine pl_val _ rfl rfl (val_load1 hT rfl rfl rfl (hX4.cell rfl)) ?_
      refine pl_opE Tryz.func97 rfl rfl (opE_call (fst := []) (cap := []) rfl rfl rfl rfl (by decide +kernel) (gos_step (hS o' (by omega) hro ho h4) hT4 hR4 ?_))
      rintro s5 r w5 hT5 ⟨rfl, hn5, h5⟩ hQ5 hR5
      refine au ?_
      exact rn_ret Tryz.func97 (.inl ⟨_, rfl, rfl⟩) ⟨_, hT5, ⟨rfl, Nat.le_trans hn3 (Nat.le_trans hn4 hn5), fun h => (by cases h), h5⟩, hR5⟩
  refine nay ?_
  refine au ?_
  rw [if_neg c6] at hT3
  unfold sayS at hT3
  rw [if_neg c1, if_neg c2, if_neg c3, if_neg c4] at hT3
  exact rn_ret Tryz.func97 (.inl ⟨_, rfl, rfl⟩) ⟨_, hT3, ⟨rfl, hn3, fun h => (by cases h), h3⟩, hR3⟩
end
end E
end Go.Proofs.YtmplkogkphmmjafGreat

/- The landed package ideal: contracts of stmts, run, Run. -/
namespace Go.Proofs.YtmplkogkphmmjafGreat
set_option maxRecDepth 20000
set_option maxHeartbeats 4000000
namespace E
open Go.Proofs

def zstI : List Value := scells 0 0 jz jz (.slice none 0 0) (.slice none 0 0)
theorem zero_is : ((Tryz.prog.info? 97).bind (·.zero)).map (·.cells) = some zstI.toArray := by kernel_rfl
theorem size_is : sizeOk Tryz.prog 97 12 = true := by kernel_rfl

theorem iStmts_end {C : Kx} (hC : C.Ok) {z : Nat} (hz0 : z ≤ 100000) (hA : AgI C z) : StI C z := by
  intro l hz hrn w lv s hl h
  obtain ⟨la, lc, rfl⟩ := hl.form
  obtain ⟨TOT, hT0⟩ : ∃ TOT, TOT = evSs C.vs C.inp C.fuel (l.drop 0) s := ⟨_, rfl⟩
  rw [List.drop_zero] at hT0
  rw [← hT0]
  have hlen := szSs_len l
  refine end_of 16 Tryz.func74 rfl rfl (by simp) ?_
  refine au ?_
  refine rn_ind (fun m σ w' => ∃ (i : Nat) (s' : Es), i ≤ l.length ∧ m = l.length - i ∧ σ = [(0, .pointer (some ⟨C.b, 0, none⟩)), (6, .slice la l.length lc), (7, .int .i64 (l.length : Nat)), (8, .int .i64 (i : Nat))] ∧ TOT = evSs C.vs C.inp C.fuel (l.drop i) s' ∧ Rt C w' s' ∧ s.n ≤ s'.n ∧ Rf w w')
    l.length _ ?_ ⟨0, s, by omega, by omega, rfl, by rw [List.drop_zero]; exact hT0, h, Nat.le_refl _, Rf.refl _⟩ ?_
  · exact ⟨rfl, rfl, rfl, rfl, trivial⟩
  rintro m σ w6 ih ⟨i, s', hi, rfl, rfl, hT6, h6, hn6, hR6⟩
  refine au ?_
  by_cases hlt : i < l.length
  · refine ye ?_
    have hxi : l[i]? = some l[i] := List.getElem?_eq_getElem hlt
    obtain ⟨b1, q1, c1, ci, hv1, hF1, hr1, hc1⟩ := hl.at hxi
    cases hv1
    have hszi := szSs_at hxi
    have hT7 : TOT = bndX (loA C l[i] (C.fuel + 1) s') fun s1 => evSs C.vs C.inp C.fuel (l.drop (i + 1)) s1 := by
      rw [hT6, List.drop_eq_getElem_cons hlt, ← evS_loA]
      rfl
    refine au ?_
    refine pl_val _ rfl rfl (val_index i hT rfl rfl rfl rfl rfl hlt w6) ?_
    refine pl_val (.agg ci.toArray) rfl rfl (val_load ci hT rfl rfl (by rw [hc1.length]; rfl) (range_keep hr1 h6.kp (hC.hF _ hF1) (by simp))) ?_
    refine pl_op rfl rfl (opTo_allocN _ rfl zero_is ?_)
    intro w7 x7 hx7 hs7 hk7 hb7
    refine pl_op rfl rfl (opTo_storeN ci rfl rfl rfl rfl (by rw [hc1.length]; exact size_is) hb7 (by rw [hc1.length]; decide) hc1.one ?_)
    intro w8 hs8 hk8 hb8
    rw [splice_whole (by rw [hc1.length]; rfl)] at hb8
    have hk68 : Keep [] w6 w8 := hk7.trB hk8 (by omega)
    refine au ?_
    refine rn_ind (fun m σ w' => ∃ (s9 : Es), C.fuel < m + s9.n ∧ σ = [(0, .pointer (some ⟨C.b, 0, none⟩)), (5, .pointer (some ⟨x7, 0, none⟩)), (6, .slice (some ⟨b1, q1, none⟩) l.length lc), (7, .int .i64 (l.length : Nat)), (8, .int .i64 (i : Nat))] ∧
      TOT = bndX (loA C l[i] m s9) (fun s1 => evSs C.vs C.inp C.fuel (l.drop (i + 1)) s1) ∧ Rt C w' s9 ∧ s.n ≤ s9.n ∧ Rf w w' ∧ Blk w' x7 ci 97)
      (C.fuel + 1) _ ?_ ⟨s', by omega, rfl, hT7, h6.keep0 hk68, hn6, hR6.tr (Rf.of0 hk68), hb8⟩ ?_
    · exact ⟨rfl, rfl, rfl, rfl, rfl, trivial⟩
    rintro m σ w9 ih2 ⟨s9, hm9, rfl, hT9, h9, hn9, hR9, hX9⟩
    have hle9 := h9.le
    obtain ⟨g, rfl⟩ : ∃ g, m = g + 1 := ⟨m - 1, by omega⟩
    simp only [loA] at hT9
    rw [bnd_assoc] at hT9
    refine au ?_
    refine pl_val (.agg ci.toArray) rfl rfl (val_load ci hT rfl rfl (by rw [hc1.length]; rfl) (hX9.range (by simp))) ?_
    refine pl_opE Tryz.func74 rfl rfl (opE_call (fst := []) (cap := []) rfl rfl rfl rfl (by decide +kernel) (gos_step (hA l[i] (by omega) (rnSs_at hrn hxi) hc1 h9) hT9 hR9 ?_))
    rintro ⟨q, s10⟩ r w10 hT10 ⟨rfl, hn10, hlt10, h10⟩ hQ10 hR10
    dsimp only at hT10 hn10 hlt10 h10
    have hX10 := hQ10.blk hX9 neSRu neSLg
    cases q with
    | true =>
      rw [if_pos rfl] at hT10
      have hlt10 := hlt10 rfl
      refine au ?_
      refine rn_sub ?_ (ih2 g _ w10 (by omega) ⟨s10, by omega, rfl, hT10, h10, by omega, hR10, hX10⟩)
      exact ⟨rfl, rfl, rfl, rfl, rfl, trivial⟩
    | false =>
      rw [if_neg (by decide)] at hT10
      refine au ?_
      refine pl_num (((i + 1 : Nat) : Int)) rfl rfl rfl rfl rfl (by simp only [ariP]; omega) ?_
      refine au ?_
      refine rn_sub ?_ (ih (l.length - (i + 1)) [(0, .pointer (some ⟨C.b, 0, none⟩)), (6, .slice (some ⟨b1, q1, none⟩) l.length lc), (7, .int .i64 (l.length : Nat)), (8, .int .i64 ((i + 1 : Nat) : Int))] w10 (by omega) ⟨i + 1, s10, by omega, rfl, rfl, hT10, h10, by omega, hR10⟩)
      exact ⟨rfl, rfl, rfl, rfl, trivial⟩
  · refine nay ?_
    rw [List.drop_of_length_le (by omega)] at hT6
    refine au ?_
    exact rn_end Tryz.func74 (.inr (.inl ⟨rfl, rfl⟩)) ⟨s', hT6, ⟨rfl, hn6, h6⟩, hR6⟩
theorem iStmts_all {C : Kx} (hC : C.Ok) : ∀ (z : Nat), z ≤ 100000 → StI C z
  | 0, _ => fun l hz => by omega
  | z + 1, h => iStmts_end hC h (iAgain_end hC (iStmts_all hC z (by omega)))

/-! ### A run; what gave up is caught -/
theorem iCaught {w : World} {x2 : Nat} (hb : Blk w x2 [.int .i64 0] 3) (c : Nat) :
    CallsD Tryz.prog 73 [Value.pointer (some ⟨x2, 0, none⟩)].toArray (.panicking (pan (gvI c))) w fun en u' w' => en = .returned (.tuple #[]) ∧ u' = .panicking [{ v := gvI c, recovered := true }] ∧ Blk w' x2 [.int .i64 (c : Nat)] 3 ∧ Keep [x2] w w' := by
  refine callsD_of 8 Tryz.func73 rfl rfl (by simp) ?_
  refine rnD_seq ?_
  refine rnD_recover (gvI c) rfl rfl rfl (fun a ha => rfl) ?_
  refine au ?_
  refine pl_val _ rfl rfl (val_errSome _ _ (by decide +kernel) rfl rfl w) ?_
  refine au ?_
  refine pl_val _ rfl rfl (val_assert (by decide +kernel) rfl rfl w) ?_
  refine pl_val _ rfl rfl (val_field1 0 [.int .i64 (c : Nat)] rfl rfl (by decide +kernel) rfl w) ?_
  refine pl_op rfl rfl (opTo_storeN [.int .i64 (c : Nat)] rfl rfl rfl rfl size_rn hb (by simp) (one_in _) ?_)
  intro w1 hs1 hk1 hb1
  rw [splice_whole (by rfl)] at hb1
  refine au ?_
  exact rn_endX Tryz.func73 rfl (.inr (.inl ⟨rfl, rfl⟩)) ⟨rfl, rfl, hb1, hk1⟩
theorem iUncaught (w : World) (x2 : Nat) :
    CallsD Tryz.prog 73 [Value.pointer (some ⟨x2, 0, none⟩)].toArray .returning w fun en u' w' => en = .returned (.tuple #[]) ∧ u' = .returning ∧ w' = w := by
  refine callsD_of 8 Tryz.func73 rfl rfl (by simp) ?_
  refine rnD_seq ?_
  refine rnD_norec rfl rfl rfl (fun a ha => rfl) ?_
  refine au ?_
  refine pl_val _ rfl rfl (val_errNil (by decide +kernel) rfl rfl w) ?_
  refine au ?_
  exact rn_endX Tryz.func73 rfl (.inr (.inl ⟨rfl, rfl⟩)) ⟨rfl, rfl, rfl⟩
end E
end Go.Proofs.YtmplkogkphmmjafGreat
