/- Several texts in one: RpH, PlR, PaM. -/
import Derived.Test.YthbkcadiejfgaacGreatDoorJ14
import Derived.Test.YthbkcadiejfgaacGreatDoorJ06
import Derived.Test.YthbkcadiejfgaacGreatDoorJ16
import Derived.Test.YthbkcadiejfgaacGreatDoorJ05
import Derived.Test.YthbkcadiejfgaacGreatDoorJ07
/- Contract of the document's Parse. -/
namespace Go.Proofs.YthbkcadiejfgaacGreatDoor
set_option maxRecDepth 20000
set_option maxHeartbeats 4000000
namespace E
open Go.Proofs

theorem built_rg (a : Option Addr) (m c : Nat) (n : Int) : Tryz.prog.built 53 [(0, .slice a m c), (1, .int .i64 n)] = some [Value.slice a m c, .int .i64 n, .int .i64 0, .int .i64 0, .int .i64 0, .slice none 0 0].toArray := by kernel_rfl
/-- What stays while Parse goes on. -/
structure Ps (w w' : World) (b b2 b3 : Nat) (lv vv : Value) (fin : Nat) (ts : List Tok) (vs : List VarT) (X : Except Flt Nat) : Prop where
  rs : Rs w' b lv vv fin X
  own : Own w' w.heap.size 57 2 vv vs.length (vs.flatMap vcell)
  cx : Cx w' lv vv ts vs
  hp : Blk w' b2 pz 26
  hf : Blk w' b3 [.int .i64 0, .int .i64 0] 28
  keep : Keep [] w w'
  nm : ∀ y ∈ vs, y.1.size ≤ 100000
section
variable {w w' w'' : World} {b b2 b3 fin : Nat} {lv vv : Value} {ts : List Tok} {vs : List VarT} {X X' : Except Flt Nat}
theorem Ps.keep0 (h : Ps w w' b b2 b3 lv vv fin ts vs X) (hk : Keep [] w' w'') : Ps w w'' b b2 b3 lv vv fin ts vs X :=
  ⟨h.rs.keep hk (by simp), h.own.keep hk (by simp), h.cx.keep0 hk, hk.blk h.hp (by simp), hk.blk h.hf (by simp), h.keep.tr hk, h.nm⟩
theorem Ps.turnR (h : Ps w w' b b2 b3 lv vv fin ts vs X) (hb : w.heap.size ≤ b) (h2 : b ≠ b2) (h3 : b ≠ b3) (hk : Keep [b] w' w'') (hr : Rs w'' b lv vv fin X') : Ps w w'' b b2 b3 lv vv fin ts vs X' := by
  obtain ⟨i, fl, hbl⟩ := h.rs.blk
  exact ⟨hr, h.own.keep hk (by intro k hk'; simp; exact fun e => own_ne h.own hbl (by decide) k hk' e.symm), h.cx.keep hbl hk, hk.blk h.hp (by simp; exact fun e => h2 e.symm), hk.blk h.hf (by simp; exact fun e => h3 e.symm), h.keep.trB hk hb, h.nm⟩
theorem Ps.turn {i : Nat} (h : Ps w w' b b2 b3 lv vv fin ts vs X) (hb : w.heap.size ≤ b) (h2 : b ≠ b2) (h3 : b ≠ b3) (hk : Keep [b] w' w'') (hr : Blk w'' b (rgC lv vv fin i (0, 0)) 53) : Ps w w'' b b2 b3 lv vv fin ts vs (.ok i) := h.turnR hb h2 h3 hk hr
theorem Ps.other {b7 : Nat} {L : List Value} (h : Ps w w' b b2 b3 lv vv fin ts vs X) (hb : w.heap.size ≤ b7) (h1 : b ≠ b7) (h2 : b2 ≠ b7) (h3 : b3 ≠ b7) (h7 : Blk w' b7 L 57) (hg : ∀ k, vv.ownBlock = some k → k < b7) (hk : Keep [b7] w' w'') : Ps w w'' b b2 b3 lv vv fin ts vs X := by
  obtain ⟨B1, ho1⟩ := h.cx.tok
  have hown := h.own.keep hk (by intro k hk'; simp; have := hg k hk'; omega)
  exact ⟨h.rs.keep hk (by simp; exact h1), hown, ⟨⟨B1, ho1.keep hk (by intro k hk'; simp; exact fun e => own_ne ho1 h7 (by decide) k hk' e.symm)⟩, ⟨_, hown⟩, h.cx.len, h.cx.vlen, h.cx.txt⟩, hk.blk h.hp (by simp; exact h2), hk.blk h.hf (by simp; exact h3), h.keep.trB hk hb, h.nm⟩

theorem Ps.prog {b9 : Nat} {L : List Value} (h : Ps w w' b b2 b3 lv vv fin ts vs X) (hb : w.heap.size ≤ b9) (h1 : b ≠ b9) (h2 : b2 ≠ b9) (h3 : b3 ≠ b9) (h9 : Blk w' b9 L 26) (hk : Keep [b9] w' w'') : Ps w w'' b b2 b3 lv vv fin ts vs X := by
  obtain ⟨B1, ho1⟩ := h.cx.tok
  have hown := h.own.keep hk (by intro k hk'; simp; exact fun e => own_ne h.own h9 (by decide) k hk' e.symm)
  exact ⟨h.rs.keep hk (by simp; exact h1), hown, ⟨⟨B1, ho1.keep hk (by intro k hk'; simp; exact fun e => own_ne ho1 h9 (by decide) k hk' e.symm)⟩, ⟨_, hown⟩, h.cx.len, h.cx.vlen, h.cx.txt⟩, hk.blk h.hp (by simp; exact h2), hk.blk h.hf (by simp; exact h3), h.keep.trB hk hb, h.nm⟩
theorem Ps.app {B g ln m : Nat} {sl : Value} {xs : List Value} (h : Ps w w' b b2 b3 lv vv fin ts vs X) (hb : w.heap.size ≤ B) (h1 : b < B) (h2 : b2 < B) (h3 : b3 < B) (hown : Own w' B 43 12 sl ln xs)
    (hor : (sl.ownBlock = some g ∧ ln + m ≤ capOf sl ∧ Keep [g] w' w'') ∨ (g = w'.heap.size ∧ Keep [] w' w'' ∧ w''.heap.size = w'.heap.size + 1)) : Ps w w'' b b2 b3 lv vv fin ts vs X := by
  have hcx := cx_app h.cx hown hor
  rcases hor with ⟨e1, _, hk⟩ | ⟨_, hk, _⟩
  · have hg := (hown.lt g e1).1
    refine ⟨h.rs.keep hk (by simp; omega), h.own.keep hk (fun k hk' => ?_), hcx, hk.blk h.hp (by simp; omega), hk.blk h.hf (by simp; omega), h.keep.trB hk (by omega), h.nm⟩
    simp
    intro e
    subst e
    rcases hown.2 with ⟨hv, _⟩ | ⟨g', c', cur', hv, _, hg', _⟩
    · rw [hv] at e1; simp [Value.ownBlock] at e1
    · rw [hv] at e1
      simp [Value.ownBlock] at e1
      subst e1
      exact own_ne h.own hg' (by decide) _ hk' rfl
  · exact h.keep0 hk
end
theorem built_f0 : Tryz.prog.built 28 [] = some [Value.int .i64 0, .int .i64 0].toArray := by kernel_rfl
theorem size_sts' : sizeOk Tryz.prog 24 1 = true := by kernel_rfl

theorem parseR_ret (l : List UInt8) (hl : l.length ≤ 100000) {w : World} (hw : Lw w) : Ret Tryz.prog 7 [.string (str l)] w fun r w' => ParR w w' r (parseOf l) ∧ Keep [] w w' := by
  refine ret_of 98 Tryz.func7 rfl rfl (by simp) ?_
  (repeat (first | refine pl_pure hT rfl rfl rfl ?_ | refine pl_nil ?_ | refine rn_seq ?_ | refine rn_plain ?_ | refine rn_block ?_ | refine rn_inBlock ?_ | refine rn_skip ?_ | refine rn_true rfl ?_ | refine rn_false rfl ?_ | refine rn_exit rfl ?_ | refine pl_not rfl rfl ?_))
  refine pl_op rfl rfl (opTo_allocN _ rfl zero_pr ?_)
  intro w1 b2 hb20 hs1 hk1 hp1
  refine pl_op rfl rfl (opTo_allocN _ rfl zero_fault ?_)
  intro w2 b3 hb30 hs2 hk2 hf2
  have hk02 := hk1.tr hk2
  have hp2 := hk2.blk hp1 (by simp)
  (repeat (first | refine pl_pure hT rfl rfl rfl ?_ | refine pl_nil ?_ | refine rn_seq ?_ | refine rn_plain ?_ | refine rn_block ?_ | refine rn_inBlock ?_ | refine rn_skip ?_ | refine rn_true rfl ?_ | refine rn_false rfl ?_ | refine rn_exit rfl ?_ | refine pl_not rfl rfl ?_))
  refine pl_op rfl rfl (opTo_call (fst := []) (cap := []) rfl rfl rfl rfl (by decide +kernel) ((scanR_ret l (by omega) (hw.keep hk02)).mono ?_))
  rintro r w3 ⟨lv, rfl, hown, hk3⟩
  obtain ⟨⟨fa, fb⟩, hfab⟩ : ∃ p, p = faultOf l := ⟨_, rfl⟩
  rw [← hfab]
  have hp3 := hk3.blk hp2 (by simp)
  have hf3 := hk3.blk hf2 (by simp)
  (repeat (first | refine pl_pure hT rfl rfl rfl ?_ | refine pl_nil ?_ | refine rn_seq ?_ | refine rn_plain ?_ | refine rn_block ?_ | refine rn_inBlock ?_ | refine rn_skip ?_ | refine rn_true rfl ?_ | refine rn_false rfl ?_ | refine rn_exit rfl ?_ | refine pl_not rfl rfl ?_))
  refine pl_op rfl rfl (opTo_allocN _ rfl zero_fault ?_)
  intro w4 b5 hb50 hs4 hk4 hq4
  (repeat (first | refine pl_pure hT rfl rfl rfl ?_ | refine pl_nil ?_ | refine rn_seq ?_ | refine rn_plain ?_ | refine rn_block ?_ | refine rn_inBlock ?_ | refine rn_skip ?_ | refine rn_true rfl ?_ | refine rn_false rfl ?_ | refine rn_exit rfl ?_ | refine pl_not rfl rfl ?_))
  refine pl_op rfl rfl (opTo_storeN [.int .i64 fa, .int .i64 fb] rfl rfl rfl rfl size_fault hq4 (by simp) (one_fault _ _) ?_)
  intro w5 hs5 hk5 hq5
  rw [splice_whole (by rfl)] at hq5
  have hk35 : Keep [] w3 w5 := hk4.trB hk5 (by omega)
  have hp5 := hk35.blk hp3 (by simp)
  have hf5 := hk35.blk hf3 (by simp)
  have hown5 := hown.keep hk35 (by simp)
  have hk05 := (hk02.tr hk3).tr hk35
  have hw23 : w2.heap.size ≤ w3.heap.size := hk3.size
  (repeat (first | refine pl_pure hT rfl rfl rfl ?_ | refine pl_nil ?_ | refine rn_seq ?_ | refine rn_plain ?_ | refine rn_block ?_ | refine rn_inBlock ?_ | refine rn_skip ?_ | refine rn_true rfl ?_ | refine rn_false rfl ?_ | refine rn_exit rfl ?_ | refine pl_not rfl rfl ?_))
  refine pl_val _ rfl rfl (val_load1 hT rfl rfl rfl (hq5.cell rfl)) ?_
  have hb23 : b2 ≠ b3 := by omega
  have hb25 : b2 ≠ b5 := by omega
  have hb35 : b3 ≠ b5 := by omega
  have hb2w : w.heap.size ≤ b2 := by omega
  have hb3w : w.heap.size ≤ b3 := by omega
  -- two answers are laid, and told
  have fini : True := trivial
  by_cases hfa : fa = 0
  · obtain ⟨hl6, hff, hlen, htxt⟩ := scan_good (l := l) (by rw [← hfab]; exact hfa)
    obtain ⟨ts, hts⟩ : ∃ ts, ts = toksOf l := ⟨_, rfl⟩
    rw [← hts] at hown5 hlen htxt
    obtain ⟨TOT, hTOT⟩ : ∃ TOT, TOT = parseOf l := ⟨_, rfl⟩
    rw [← hTOT]
    have hT0 : TOT = bnd (letsP ts l.length 0) (fun p => restB ts l.length p.1 p.2) := by
      rw [hTOT]
      unfold parseOf
      rw [hff, if_neg (by decide), ← hts]
      unfold parseT readP
      cases letsP ts l.length 0 with
      | error e => rfl
      | ok p =>
        obtain ⟨vs, i⟩ := p
        show bnd (bnd (bodyP ts l.length vs i) _) _ = bnd (bodyP ts l.length vs i) _
        cases bodyP ts l.length vs i <;> rfl
    obtain ⟨fin, hfin⟩ : ∃ fin, fin = l.length := ⟨_, rfl⟩
    rw [← hfin] at hT0
    obtain ⟨av, cv, rfl⟩ := hown5.form
    refine pl_no rfl rfl rfl rfl rfl rfl (by first | (simp only [cmpP]; omega) | (simp [cmpP]; done) | (simp [cmpP]; omega)) ?_
    (repeat (first | refine pl_pure hT rfl rfl rfl ?_ | refine pl_nil ?_ | refine rn_seq ?_ | refine rn_plain ?_ | refine rn_block ?_ | refine rn_inBlock ?_ | refine rn_skip ?_ | refine rn_true rfl ?_ | refine rn_false rfl ?_ | refine rn_exit rfl ?_ | refine pl_not rfl rfl ?_))
    refine pl_val _ rfl rfl (val_len l (by decide +kernel) rfl rfl w5) ?_
    rw [← hfin]
    refine pl_val _ rfl rfl (val_build _ rfl rfl (built_rg av ts.length cv (fin : Nat)) w5) ?_
    refine pl_op rfl rfl (opTo_boxN (rgC (.slice av ts.length cv) (.slice none 0 0) fin 0 (0, 0)) rfl rfl rfl ?_)
    intro w6 b hb0 hs6 hk6 hb6
    obtain ⟨lv, hlv⟩ : ∃ lv, lv = Value.slice av ts.length cv := ⟨_, rfl⟩
    rw [← hlv] at hb6 hown5 ⊢
    have hw35 : w3.heap.size ≤ w5.heap.size := hk35.size
    have hown6 := hown5.keep hk6 (by simp)
    have hcx6 : Cx w6 lv (.slice none 0 0) ts [] := ⟨⟨_, hown6⟩, ⟨0, Own.nil _ _ _ _⟩, by omega, by simp, fun t ht => by have := htxt t ht; omega⟩
    have hps6 : Ps w w6 b b2 b3 lv (.slice none 0 0) fin ts [] (.ok 0) :=
      ⟨hb6, Own.nil _ _ _ _, hcx6, hk6.blk hp5 (by simp), hk6.blk hf5 (by simp), hk05.tr hk6, fun y hy => by simp at hy⟩
    have hbw : w.heap.size ≤ b := by have := hk05.size; omega
    have hbb2 : b ≠ b2 := by omega
    have hbb3 : b ≠ b3 := by omega
    (repeat (first | refine pl_pure hT rfl rfl rfl ?_ | refine pl_not rfl rfl ?_ | refine pl_nil ?_ | refine rn_inBlock ?_ | refine rn_skip ?_ | refine rn_true rfl ?_ | refine rn_false rfl ?_ | refine rn_exit rfl ?_))
    refine rn_seq ?_
    refine rn_with (fun σ' w' => ∃ (X : Except Flt Nat) (vs : List VarT) (vv : Value), TOT = bnd X (fun i => restB ts fin vs i) ∧ (∀ i, X = .ok i → vs.length ≤ i ∧ i ≤ ts.length) ∧ vs.length ≤ ts.length + 1 ∧ Ps w w' b b2 b3 lv vv fin ts vs X ∧ w6.heap.size ≤ w'.heap.size ∧
      Sub [(2, .pointer (some ⟨b2, 0, none⟩)), (3, .pointer (some ⟨b3, 0, none⟩)), (4, lv), (6, .pointer (some ⟨b, 0, none⟩))] σ') ?_ ?_
    rotate_left
    · intro fin1
      refine rn_block ?_
      refine rn_ind (fun m σ w' => ∃ (X : Except Flt Nat) (vs : List VarT) (vv : Value), m = (match X with | .ok i => ts.length + 1 - i | .error _ => 0) ∧ σ = [(2, .pointer (some ⟨b2, 0, none⟩)), (3, .pointer (some ⟨b3, 0, none⟩)), (4, lv), (6, .pointer (some ⟨b, 0, none⟩))] ∧
        TOT = bnd X (fun i => bnd (untilP (fun j => !isT ts j letT) (letP ts fin) (ts.length + 1 - i) i) fun (r, k) => restB ts fin (vs ++ r) k) ∧ (∀ i, X = .ok i → vs.length ≤ i ∧ i ≤ ts.length) ∧ vs.length ≤ ts.length + 1 ∧ Ps w w' b b2 b3 lv vv fin ts vs X ∧ w6.heap.size ≤ w'.heap.size) (ts.length + 1) _ ?_
        ⟨.ok 0, [], .slice none 0 0, rfl, rfl, hT0, fun i hi => by injection hi with hi; subst hi; exact ⟨Nat.le_refl _, Nat.zero_le _⟩, Nat.zero_le _, hps6, Nat.le_refl _⟩ ?_
      · exact ⟨rfl, rfl, rfl, rfl, trivial⟩
      rintro m σ w7 ih ⟨X, vs, vv, rfl, rfl, hT7, hi7, hv7, hps7, hsz7⟩
      (repeat (first | refine pl_pure hT rfl rfl rfl ?_ | refine pl_nil ?_ | refine rn_seq ?_ | refine rn_plain ?_ | refine rn_block ?_ | refine rn_inBlock ?_ | refine rn_skip ?_ | refine rn_true rfl ?_ | refine rn_false rfl ?_ | refine rn_exit rfl ?_ | refine pl_not rfl rfl ?_))
      refine pl_op rfl rfl (opTo_call (fst := []) (cap := []) rfl rfl rfl rfl (by decide +kernel) ((rIs_ret hps7.cx hps7.rs letT).mono ?_))
      rintro r w8 ⟨rfl, hk8⟩
      have hps8 := hps7.keep0 hk8
      have hsz8 : w6.heap.size ≤ w8.heap.size := Nat.le_trans hsz7 hk8.size
      obtain ⟨q, hq⟩ : ∃ q, q = isX ts X letT := ⟨_, rfl⟩
      rw [← hq]
      cases q with
      | false =>
        (repeat (first | refine pl_pure hT rfl rfl rfl ?_ | refine pl_not rfl rfl ?_ | refine pl_nil ?_ | refine rn_inBlock ?_ | refine rn_skip ?_ | refine rn_true rfl ?_ | refine rn_false rfl ?_ | refine rn_exit rfl ?_))
        refine fin1 _ _ ⟨X, vs, vv, ?_, hi7, hv7, hps8, hsz8, rfl, rfl, rfl, rfl, trivial⟩
        rw [hT7]
        cases X with
        | error e => rfl
        | ok i =>
          have hle := (hi7 i rfl).2
          have hq' : isT ts i letT = false := hq.symm
          have e : ts.length + 1 - i = (ts.length - i) + 1 := by omega
          show bnd (untilP _ _ (ts.length + 1 - i) i) _ = restB ts fin vs i
          rw [e, untilP, hq', if_pos (by decide)]
          show restB ts fin (vs ++ []) i = _
          rw [List.append_nil]
      | true =>
        cases X with
        | error e => cases hq
        | ok i =>
        have hq' : isT ts i letT = true := hq.symm
        have hlt := isT_lt hq'
        obtain ⟨hvi, hile⟩ := hi7 i rfl
        have hu : untilP (fun j => !isT ts j letT) (letP ts fin) (ts.length + 1 - i) i = bnd (letP ts fin i) fun (t, j) => bnd (untilP (fun j => !isT ts j letT) (letP ts fin) (ts.length - i) j) fun (r, k) => .ok (t :: r, k) := by
          have e : ts.length + 1 - i = (ts.length - i) + 1 := by omega
          rw [e, untilP, hq', if_neg (by decide)]
        have hb8 : Blk w8 b (rgC lv vv fin i (0, 0)) 53 := hps8.rs
        (repeat (first | refine pl_pure hT rfl rfl rfl ?_ | refine pl_nil ?_ | refine rn_seq ?_ | refine rn_plain ?_ | refine rn_block ?_ | refine rn_inBlock ?_ | refine rn_skip ?_ | refine rn_true rfl ?_ | refine rn_false rfl ?_ | refine rn_exit rfl ?_ | refine pl_not rfl rfl ?_))
        refine pl_val _ rfl rfl (val_load1 hT rfl rfl rfl (Blk.cell hb8 (by rfl))) ?_
        refine pl_num (((i + 1 : Nat) : Int)) rfl rfl rfl rfl rfl (by simp only [ariP]; omega) ?_
        (repeat (first | refine pl_pure hT rfl rfl rfl ?_ | refine pl_nil ?_ | refine rn_seq ?_ | refine rn_plain ?_ | refine rn_block ?_ | refine rn_inBlock ?_ | refine rn_skip ?_ | refine rn_true rfl ?_ | refine rn_false rfl ?_ | refine rn_exit rfl ?_ | refine pl_not rfl rfl ?_))
        refine pl_op rfl rfl (opTo_storeN [.int .i64 ((i + 1 : Nat) : Int)] rfl rfl rfl rfl size_int hb8 (by simp [rgC]) (by simp; rfl) ?_)
        intro w9 hs9 hk9 hb9
        rw [rgC_next] at hb9
        have hps9 : Ps w w9 b b2 b3 lv vv fin ts vs (.ok (i + 1)) := hps8.turn hbw hbb2 hbb3 hk9 hb9
        (repeat (first | refine pl_pure hT rfl rfl rfl ?_ | refine pl_nil ?_ | refine rn_seq ?_ | refine rn_plain ?_ | refine rn_block ?_ | refine rn_inBlock ?_ | refine rn_skip ?_ | refine rn_true rfl ?_ | refine rn_false rfl ?_ | refine rn_exit rfl ?_ | refine pl_not rfl rfl ?_))
        refine pl_op rfl rfl (opTo_call (fst := []) (cap := []) rfl rfl rfl rfl (by decide +kernel) ((rName_ret hps9.cx hps9.rs).mono ?_))
        rintro r w10 ⟨hname, hk10⟩
        obtain ⟨s', rfl, hs8', hsn, hr10⟩ : ∃ s' : List UInt8, r = .string (str s') ∧ s'.length ≤ 8 ∧ (∀ p, nameP ts fin (i + 1) = .ok p → p.1 = s') ∧ Rs w10 b lv vv fin (sndX (nameP ts fin (i + 1))) := by
          have hname' : NameR w10 b lv vv fin r (nameP ts fin (i + 1)) := hname
          cases hc : nameP ts fin (i + 1) with
          | error e =>
            rw [hc] at hname'
            exact ⟨[], hname'.1, by simp, fun p hp => (by cases hp), hname'.2⟩
          | ok p =>
            rw [hc] at hname'
            exact ⟨p.1, hname'.1, nameP_len hc, fun q hq => by injection hq with hq; rw [← hq], hname'.2⟩
        have hps10 : Ps w w10 b b2 b3 lv vv fin ts vs (sndX (nameP ts fin (i + 1))) := hps9.turnR hbw hbb2 hbb3 hk10 hr10
        refine pl_val _ rfl rfl (val_build _ rfl rfl (built_v1 (str s')) w10) ?_
        refine pl_op rfl rfl (opTo_allocN _ rfl zero_v ?_)
        intro w11 b7 hb70 hs11 hk11 hv11
        refine pl_op rfl rfl (opTo_storeN [.string (str s'), .int .i64 0] rfl rfl rfl rfl size_v hv11 (by simp) (by intro u hu'; simp at hu'; rcases hu' with rfl | rfl <;> rfl) ?_)
        intro w12 hs12 hk12 hv12
        rw [splice_whole (by rfl)] at hv12
        have hk1012 : Keep [] w10 w12 := hk11.trB hk12 (by omega)
        have hps12 := hps10.keep0 hk1012
        have hsz10 : w6.heap.size ≤ w10.heap.size := by have := hk9.size; have := hk10.size; omega
        have hbb7 : b ≠ b7 := by have := hps10.rs.lt; omega
        have hb7w : w.heap.size ≤ b7 := by have := hps10.keep.size; omega
        have hb27 : b2 ≠ b7 := by have := hps10.hp.lt; omega
        have hb37 : b3 ≠ b7 := by have := hps10.hf.lt; omega
        have hg7 : ∀ k, vv.ownBlock = some k → k < b7 := fun k hk => by have := (hps10.own.lt k hk).2; omega
        (repeat (first | refine pl_pure hT rfl rfl rfl ?_ | refine pl_not rfl rfl ?_ | refine pl_nil ?_ | refine rn_inBlock ?_ | refine rn_skip ?_ | refine rn_true rfl ?_ | refine rn_false rfl ?_ | refine rn_exit rfl ?_))
        refine rn_seq ?_
        refine rn_with (fun σ' w' => ∃ (n : Int), (∀ p, bnd (sndX (nameP ts fin (i + 1))) (numP ts fin) = .ok p → p.1 = n) ∧ Ps w w' b b2 b3 lv vv fin ts vs (sndX (bnd (sndX (nameP ts fin (i + 1))) (numP ts fin))) ∧ Blk w' b7 [.string (str s'), .int .i64 (sizeP n)] 57 ∧ w12.heap.size ≤ w'.heap.size ∧
          Sub [(2, .pointer (some ⟨b2, 0, none⟩)), (3, .pointer (some ⟨b3, 0, none⟩)), (4, lv), (6, .pointer (some ⟨b, 0, none⟩)), (7, .pointer (some ⟨b7, 0, none⟩))] σ') ?_ ?_
        rotate_left
        · intro fin2
          refine rn_seq ?_
          refine rn_plain ?_
          (repeat (first | refine pl_pure hT rfl rfl rfl ?_ | refine pl_not rfl rfl ?_ | refine pl_nil ?_ | refine rn_inBlock ?_ | refine rn_skip ?_ | refine rn_true rfl ?_ | refine rn_false rfl ?_ | refine rn_exit rfl ?_))
          refine pl_op rfl rfl (opTo_call (fst := []) (cap := []) rfl rfl rfl rfl (by decide +kernel) ((rNumber_ret hps12.cx hps12.rs).mono ?_))
          rintro r w13 ⟨hnum, hk13⟩
          obtain ⟨n, rfl, hn1, hr13⟩ : ∃ n : Int, r = .int .i64 n ∧ (∀ p, bnd (sndX (nameP ts fin (i + 1))) (numP ts fin) = .ok p → p.1 = n) ∧ Rs w13 b lv vv fin (sndX (bnd (sndX (nameP ts fin (i + 1))) (numP ts fin))) := by
            cases hc : bnd (sndX (nameP ts fin (i + 1))) (numP ts fin) with
            | error e =>
              rw [hc] at hnum
              exact ⟨0, hnum.1, fun p hp => (by cases hp), hnum.2⟩
            | ok p =>
              rw [hc] at hnum
              exact ⟨p.1, hnum.1, fun q hq => by injection hq with hq; rw [← hq], hnum.2⟩
          have hps13 := hps12.turnR hbw hbb2 hbb3 hk13 hr13
          have hv13 := hk13.blk hv12 (by simp; omega)
          (repeat (first | refine pl_pure hT rfl rfl rfl ?_ | refine pl_not rfl rfl ?_ | refine pl_nil ?_ | refine rn_inBlock ?_ | refine rn_skip ?_ | refine rn_true rfl ?_ | refine rn_false rfl ?_ | refine rn_exit rfl ?_))
          refine rn_seq ?_
          refine rn_plain ?_
          (repeat (first | refine pl_pure hT rfl rfl rfl ?_ | refine pl_not rfl rfl ?_ | refine pl_nil ?_ | refine rn_inBlock ?_ | refine rn_skip ?_ | refine rn_true rfl ?_ | refine rn_false rfl ?_ | refine rn_exit rfl ?_))
          by_cases hn : 1 ≤ n ∧ n ≤ 48
          · refine pl_yes rfl rfl rfl rfl rfl (by first | (simp only [cmpP]; omega) | (simp [cmpP]; done) | (simp [cmpP]; omega)) ?_
            (repeat (first | refine pl_pure hT rfl rfl rfl ?_ | refine pl_not rfl rfl ?_ | refine pl_nil ?_ | refine rn_inBlock ?_ | refine rn_skip ?_ | refine rn_true rfl ?_ | refine rn_false rfl ?_ | refine rn_exit rfl ?_))
            refine pl_yes rfl rfl rfl rfl rfl (by first | (simp only [cmpP]; omega) | (simp [cmpP]; done) | (simp [cmpP]; omega)) ?_
            (repeat (first | refine pl_pure hT rfl rfl rfl ?_ | refine pl_not rfl rfl ?_ | refine pl_nil ?_ | refine rn_inBlock ?_ | refine rn_skip ?_ | refine rn_true rfl ?_ | refine rn_false rfl ?_ | refine rn_exit rfl ?_))
            refine rn_plain ?_
            (repeat (first | refine pl_pure hT rfl rfl rfl ?_ | refine pl_not rfl rfl ?_ | refine pl_nil ?_ | refine rn_inBlock ?_ | refine rn_skip ?_ | refine rn_true rfl ?_ | refine rn_false rfl ?_ | refine rn_exit rfl ?_))
            refine pl_op rfl rfl (opTo_storeN [.int .i64 n] rfl rfl rfl rfl size_int hv13 (by simp) (by simp; rfl) ?_)
            intro w14 hs14 hk14 hv14
            have hps14 := hps13.other hb7w hbb7 hb27 hb37 hv13 hg7 hk14
            have e1 : sizeP n = n := by unfold sizeP; rw [if_pos hn]
            (repeat (first | refine pl_pure hT rfl rfl rfl ?_ | refine pl_not rfl rfl ?_ | refine pl_nil ?_ | refine rn_inBlock ?_ | refine rn_skip ?_ | refine rn_true rfl ?_ | refine rn_false rfl ?_ | refine rn_exit rfl ?_))
            exact fin2 _ _ ⟨n, hn1, hps14, by rw [e1]; exact hv14, by have := hk13.size; have := hk14.size; omega, rfl, rfl, rfl, rfl, rfl, trivial⟩
          · have e1 : sizeP n = 0 := by unfold sizeP; rw [if_neg hn]
            by_cases h1 : 1 ≤ n
            · refine pl_yes rfl rfl rfl rfl rfl (by first | (simp only [cmpP]; omega) | (simp [cmpP]; done) | (simp [cmpP]; omega)) ?_
              (repeat (first | refine pl_pure hT rfl rfl rfl ?_ | refine pl_not rfl rfl ?_ | refine pl_nil ?_ | refine rn_inBlock ?_ | refine rn_skip ?_ | refine rn_true rfl ?_ | refine rn_false rfl ?_ | refine rn_exit rfl ?_))
              refine pl_no rfl rfl rfl rfl rfl rfl (by first | (simp only [cmpP]; omega) | (simp [cmpP]; done) | (simp [cmpP]; omega)) ?_
              (repeat (first | refine pl_pure hT rfl rfl rfl ?_ | refine pl_not rfl rfl ?_ | refine pl_nil ?_ | refine rn_inBlock ?_ | refine rn_skip ?_ | refine rn_true rfl ?_ | refine rn_false rfl ?_ | refine rn_exit rfl ?_))
              exact fin2 _ _ ⟨n, hn1, hps13, by rw [e1]; exact hv13, by have := hk13.size; omega, rfl, rfl, rfl, rfl, rfl, trivial⟩
            · refine pl_no rfl rfl rfl rfl rfl rfl (by first | (simp only [cmpP]; omega) | (simp [cmpP]; done) | (simp [cmpP]; omega)) ?_
              (repeat (first | refine pl_pure hT rfl rfl rfl ?_ | refine pl_not rfl rfl ?_ | refine pl_nil ?_ | refine rn_inBlock ?_ | refine rn_skip ?_ | refine rn_true rfl ?_ | refine rn_false rfl ?_ | refine rn_exit rfl ?_))
              exact fin2 _ _ ⟨n, hn1, hps13, by rw [e1]; exact hv13, by have := hk13.size; omega, rfl, rfl, rfl, rfl, rfl, trivial⟩
        rintro σ' w14 ⟨n, hn1, hps14, hv14, hsz14, hsub⟩
        refine rn_sub hsub ?_
        obtain ⟨X', hX'⟩ : ∃ X', X' = sndX (bnd (sndX (nameP ts fin (i + 1))) (numP ts fin)) := ⟨_, rfl⟩
        rw [← hX'] at hps14
        obtain ⟨i14, fl14, hb14⟩ := hps14.rs.blk
        obtain ⟨vav, vcv, hvv⟩ := hps14.own.form
        have hkd : Keep [] w14 w14.drew := (Keep.refl _ _).drew
        refine rn_draw (fun w' => Blk w' b7 [.string (str s'), .int .i64 (sizeP n)] 57 ∧ Blk w' b (rgC lv vv fin i14 fl14) 53) [10] hMix ?_
        have hS : Blk w14.drew b7 [.string (str s'), .int .i64 (sizeP n)] 57 ∧ Blk w14.drew b (rgC lv vv fin i14 fl14) 53 := ⟨hkd.blk hv14 (by simp), hkd.blk hb14 (by simp)⟩
        try (first | refine dr_pure 0 hT rfl (by decide +kernel) rfl rfl rfl ?_ | refine dr_not 0 rfl (by decide +kernel) rfl rfl ?_ | refine dr_val 0 _ rfl (by decide +kernel) rfl rfl (fun w9 hS9 => val_load1 hT rfl rfl rfl (Blk.cell hS9.2 (by rfl))) hS ?_ | refine dr_yes 0 rfl (by decide +kernel) rfl rfl rfl rfl rfl (by first | (simp only [cmpP]; omega) | (simp [cmpP]; done) | (simp [cmpP]; omega)) ?_ | refine dr_no 0 rfl (by decide +kernel) rfl rfl rfl rfl rfl rfl (by first | (simp only [cmpP]; omega) | (simp [cmpP]; done) | (simp [cmpP]; omega)) ?_)
        try (first | refine dr_pure 1 hT rfl (by decide +kernel) rfl rfl rfl ?_ | refine dr_not 1 rfl (by decide +kernel) rfl rfl ?_ | refine dr_val 1 _ rfl (by decide +kernel) rfl rfl (fun w9 hS9 => val_load1 hT rfl rfl rfl (Blk.cell hS9.2 (by rfl))) hS ?_ | refine dr_yes 1 rfl (by decide +kernel) rfl rfl rfl rfl rfl (by first | (simp only [cmpP]; omega) | (simp [cmpP]; done) | (simp [cmpP]; omega)) ?_ | refine dr_no 1 rfl (by decide +kernel) rfl rfl rfl rfl rfl rfl (by first | (simp only [cmpP]; omega) | (simp [cmpP]; done) | (simp [cmpP]; omega)) ?_)
        try (first | refine dr_pure 2 hT rfl (by decide +kernel) rfl rfl rfl ?_ | refine dr_not 2 rfl (by decide +kernel) rfl rfl ?_ | refine dr_val 2 _ rfl (by decide +kernel) rfl rfl (fun w9 hS9 => val_load1 hT rfl rfl rfl (Blk.cell hS9.2 (by rfl))) hS ?_ | refine dr_yes 2 rfl (by decide +kernel) rfl rfl rfl rfl rfl (by first | (simp only [cmpP]; omega) | (simp [cmpP]; done) | (simp [cmpP]; omega)) ?_ | refine dr_no 2 rfl (by decide +kernel) rfl rfl rfl rfl rfl rfl (by first | (simp only [cmpP]; omega) | (simp [cmpP]; done) | (simp [cmpP]; omega)) ?_)
        try (first | refine dr_pure 3 hT rfl (by decide +kernel) rfl rfl rfl ?_ | refine dr_not 3 rfl (by decide +kernel) rfl rfl ?_ | refine dr_val 3 _ rfl (by decide +kernel) rfl rfl (fun w9 hS9 => val_load1 hT rfl rfl rfl (Blk.cell hS9.2 (by rfl))) hS ?_ | refine dr_yes 3 rfl (by decide +kernel) rfl rfl rfl rfl rfl (by first | (simp only [cmpP]; omega) | (simp [cmpP]; done) | (simp [cmpP]; omega)) ?_ | refine dr_no 3 rfl (by decide +kernel) rfl rfl rfl rfl rfl rfl (by first | (simp only [cmpP]; omega) | (simp [cmpP]; done) | (simp [cmpP]; omega)) ?_)
        try (first | refine dr_pure 4 hT rfl (by decide +kernel) rfl rfl rfl ?_ | refine dr_not 4 rfl (by decide +kernel) rfl rfl ?_ | refine dr_val 4 _ rfl (by decide +kernel) rfl rfl (fun w9 hS9 => val_load1 hT rfl rfl rfl (Blk.cell hS9.2 (by rfl))) hS ?_ | refine dr_yes 4 rfl (by decide +kernel) rfl rfl rfl rfl rfl (by first | (simp only [cmpP]; omega) | (simp [cmpP]; done) | (simp [cmpP]; omega)) ?_ | refine dr_no 4 rfl (by decide +kernel) rfl rfl rfl rfl rfl rfl (by first | (simp only [cmpP]; omega) | (simp [cmpP]; done) | (simp [cmpP]; omega)) ?_)
        refine dr_val 5 _ rfl (by decide +kernel) rfl rfl (fun w9 hS9 => val_load [.string (str s'), .int .i64 (sizeP n)] hT rfl rfl rfl (hS9.1.range (by rfl))) hS ?_
        refine dr_op 6 rfl (by decide +kernel) rfl rfl (opTo_sliceN _ _ rfl rfl (slice_v _ _) ?_)
        intro w15 g15 hg15 hs15 hk15 hb15
        have hS15 : Blk w15 b7 [.string (str s'), .int .i64 (sizeP n)] 57 ∧ Blk w15 b (rgC lv vv fin i14 fl14) 53 := ⟨hk15.blk hS.1 (by simp), hk15.blk hS.2 (by simp)⟩
        refine ⟨fun _ => hS15, ?_⟩
        have hps15 := (hps14.keep0 hkd).keep0 hk15
        refine dr_op 7 rfl (by decide +kernel) rfl rfl (opTo_app w.heap.size 57 2 24 (vs.flatMap vcell) [.string (str s'), .int .i64 (sizeP n)] rfl rfl rfl (by decide +kernel) hps15.own (hb15.range (by rfl)) rfl (by intro u hu'; simp at hu'; rcases hu' with rfl | rfl <;> rfl) (by decide) (by simp only [maxLen]; omega) (by omega) hps15.keep.size ?_)
        intro g16 cap16 w16 hown16 hor16
        have hb16 := app_blk hS15.2 (own_ne hps15.own hS15.2 (by decide)) hor16
        have hv16 := app_blk hS15.1 (fun k hk e => by have := hg7 k hk; omega) hor16
        refine ⟨fun _ => ⟨hv16, hb16⟩, ?_⟩
        refine dr_pure 8 hT rfl (by decide +kernel) rfl rfl rfl ?_
        refine dr_pure 9 hT rfl (by decide +kernel) rfl rfl rfl ?_
        refine dr_op 10 rfl (by decide +kernel) rfl rfl (opTo_storeN [.slice (some ⟨g16, 0, none⟩) (vs.length + 1) cap16] rfl rfl rfl rfl size_vs hb16 (by simp [rgC]) (by simp; rfl) ?_)
        intro w17 hs17 hk17 hb17
        refine ⟨fun h => absurd (by simp) h, ?_⟩
        refine dr_done (by decide +kernel) ?_
        have hsp : splice (rgC lv vv fin i14 fl14) 5 [.slice (some ⟨g16, 0, none⟩) (vs.length + 1) cap16] = rgC lv (.slice (some ⟨g16, 0, none⟩) (vs.length + 1) cap16) fin i14 fl14 := rfl
        rw [hsp] at hb17
        have hps17 : Ps w w17 b b2 b3 lv (.slice (some ⟨g16, 0, none⟩) (vs.length + 1) cap16) fin ts (vs ++ [(str s', sizeP n)]) X' := by
          have e1 : (vs ++ [((str s', sizeP n) : VarT)]).length = vs.length + 1 := by simp
          have e2 : (vs ++ [((str s', sizeP n) : VarT)]).flatMap vcell = vs.flatMap vcell ++ [.string (str s'), .int .i64 (sizeP n)] := by
            rw [List.flatMap_append]
            rfl
          have hown17 : Own w17 w.heap.size 57 2 (.slice (some ⟨g16, 0, none⟩) (vs.length + 1) cap16) (vs ++ [((str s', sizeP n) : VarT)]).length ((vs ++ [((str s', sizeP n) : VarT)]).flatMap vcell) := by
            rw [e1, e2]
            exact hown16.keep hk17 (fun k hk => by simp; exact fun e => own_ne hown16 hb16 (by decide) k hk e.symm)
          have hk1517 : ∀ c, c < w15.heap.size → c ≠ b → vv.ownBlock ≠ some c → w17.heap[c]? = w15.heap[c]? := by
            intro c hc hcb hcv
            have h17 : w17.heap[c]? = w16.heap[c]? := hk17.block c (by rcases hor16 with ⟨_, _, h2⟩ | ⟨_, h2, _⟩ <;> (have := h2.size; omega)) (by simp; exact hcb)
            rw [h17]
            rcases hor16 with ⟨h1, _, h2⟩ | ⟨_, h2, _⟩
            · exact h2.block c hc (by simp; intro e; rw [e] at hcv; exact hcv h1)
            · exact h2.block c hc (by simp)
          have hblk : ∀ {c : Nat} {L : List Value} {t : TypeId}, Blk w15 c L t → c ≠ b → t ≠ 57 → Blk w17 c L t := by
            intro c L t hc hcb ht
            have := hk1517 c hc.lt hcb (fun e => own_ne hps15.own hc ht c e rfl)
            exact this.trans hc
          obtain ⟨B1, ho1⟩ := hps15.cx.tok
          have hk0w : Keep [] w w17 := by
            rcases hor16 with ⟨h1, _, h2⟩ | ⟨_, h2, _⟩
            · exact ((hps15.keep.trB h2 (hps15.own.lt g16 h1).1)).trB hk17 hbw
            · exact (hps15.keep.tr h2).trB hk17 hbw
          refine ⟨?_, hown17, ⟨⟨B1, ?_⟩, ⟨_, hown17⟩, hps15.cx.len, by rw [e1]; omega, hps15.cx.txt⟩, hblk hps15.hp (fun e => hbb2 e.symm) (by decide), hblk hps15.hf (fun e => hbb3 e.symm) (by decide), hk0w, ?_⟩
          · have hrs := hps15.rs
            cases X' with
            | ok i' =>
              have hbb : Blk w15 b (rgC lv vv fin i' (0, 0)) 53 := hrs
              have := hS15.2
              unfold Blk at this hbb
              rw [hbb] at this
              injection this with this
              injection this with this
              have h2 := congrArg (fun a : Array Value => (a[2]?, a[3]?, a[4]?)) this
              simp [rgC] at h2
              obtain ⟨h2a, h2b, h2c⟩ := h2
              have ei : i' = i14 := by omega
              have ef : fl14 = (0, 0) := Prod.ext h2b.symm h2c.symm
              rw [ei]
              rw [ef] at hb17
              exact hb17
            | error e =>
              obtain ⟨he, i', hbb⟩ := hrs
              have := hS15.2
              unfold Blk at this hbb
              rw [hbb] at this
              injection this with this
              injection this with this
              have h2 := congrArg (fun a : Array Value => (a[2]?, a[3]?, a[4]?)) this
              simp [rgC] at h2
              obtain ⟨h2a, h2b, h2c⟩ := h2
              have ef : fl14 = e := Prod.ext h2b.symm h2c.symm
              exact ⟨he, i14, by rw [← ef]; exact hb17⟩
          · refine ⟨ho1.1, ?_⟩
            rcases ho1.2 with h0 | ⟨g1, c1, cur1, h1, h2, h3, h4⟩
            · exact .inl h0
            · refine .inr ⟨g1, c1, cur1, h1, h2, hblk h3 (fun e => ?_) (by decide), h4⟩
              subst e
              exact h3.ne hS15.2 (by decide) rfl
          · intro y hy
            rcases List.mem_append.1 hy with hy | hy
            · exact hps15.nm y hy
            · simp only [List.mem_singleton] at hy
              subst hy
              show (str s').size ≤ 100000
              rw [str_size]
              omega
        have hsz17 : w6.heap.size ≤ w17.heap.size := by
          have h1 := hk15.size
          have h2 : w15.heap.size ≤ w16.heap.size := by rcases hor16 with ⟨_, _, h2⟩ | ⟨_, h2, _⟩ <;> exact h2.size
          have h3 := hk17.size
          have h4 : w14.drew.heap.size = w14.heap.size := rfl
          have h5 := hk1012.size
          omega
        have hlet : letP ts fin i = bnd (bnd (sndX (nameP ts fin (i + 1))) (numP ts fin)) fun p => .ok (((str s', sizeP n) : VarT), p.2) := by
          unfold letP
          cases hc : nameP ts fin (i + 1) with
          | error e => rfl
          | ok p =>
            obtain ⟨s2, j2⟩ := p
            have := hsn _ hc
            dsimp only at this
            subst this
            rw [hc] at hn1
            show bnd (numP ts fin j2) _ = bnd (numP ts fin j2) _
            cases hc2 : numP ts fin j2 with
            | error e => rfl
            | ok p2 =>
              have := hn1 p2 hc2
              rw [← this]
              rfl
        (repeat (first | refine pl_pure hT rfl rfl rfl ?_ | refine pl_nil ?_ | refine rn_seq ?_ | refine rn_plain ?_ | refine rn_block ?_ | refine rn_inBlock ?_ | refine rn_skip ?_ | refine rn_true rfl ?_ | refine rn_false rfl ?_ | refine rn_exit rfl ?_ | refine pl_not rfl rfl ?_))
        have hlX : sndX (letP ts fin i) = X' := by
          rw [hlet, hX']
          unfold sndX
          cases bnd (bnd (nameP ts fin (i + 1)) fun p => Except.ok p.2) (numP ts fin) <;> rfl
        cases hc : letP ts fin i with
        | error e =>
          have hXe : X' = .error e := by rw [← hlX, hc]; rfl
          refine rn_sub ?_ (ih _ _ _ ?_ ⟨X', vs ++ [(str s', sizeP n)], _, rfl, rfl, ?_, fun i' hi' => ?_, by simp; omega, hps17, hsz17⟩)
          · exact ⟨rfl, rfl, rfl, rfl, trivial⟩
          · rw [hXe]
            show 0 < ts.length + 1 - i
            omega
          · rw [hT7, hXe]
            show bnd (untilP _ _ (ts.length + 1 - i) i) _ = _
            rw [hu, hc]
            rfl
          · rw [hXe] at hi'; cases hi'
        | ok p =>
          obtain ⟨y, j'⟩ := p
          have hadv := letP_ok hc
          dsimp only at hadv
          have hXo : X' = .ok j' := by rw [← hlX, hc]; rfl
          have hy : y = (str s', sizeP n) := by
            rw [hlet] at hc
            obtain ⟨p, _, hp2⟩ := bnd_ok hc
            injection hp2 with hp2
            injection hp2 with hp2 _
            exact hp2.symm
          refine rn_sub ?_ (ih _ _ _ ?_ ⟨X', vs ++ [(str s', sizeP n)], _, rfl, rfl, ?_, fun i' hi' => ?_, by simp; omega, hps17, hsz17⟩)
          · exact ⟨rfl, rfl, rfl, rfl, trivial⟩
          · rw [hXo]
            show ts.length + 1 - j' < ts.length + 1 - i
            omega
          · rw [hT7, hXo]
            show bnd (untilP _ _ (ts.length + 1 - i) i) _ = bnd (untilP _ _ (ts.length + 1 - j') j') _
            rw [hu, hc]
            show bnd (bnd (untilP _ _ (ts.length - i) j') _) _ = _
            rw [untilP_fuel (ts := ts) (fun i r hr => letP_ok hr) (ts.length - i) (ts.length + 1 - j') j' hadv.2 (by omega) (by omega)]
            cases untilP (fun j => !isT ts j letT) (letP ts fin) (ts.length + 1 - j') j' with
            | error e => rfl
            | ok q =>
              obtain ⟨r', k'⟩ := q
              show restB ts fin (vs ++ y :: r') k' = restB ts fin (vs ++ [(str s', sizeP n)] ++ r') k'
              rw [hy, List.append_assoc]
              rfl
          · rw [hXo] at hi'
            injection hi' with hi'
            subst hi'
            exact ⟨by simp; omega, hadv.2⟩
    rintro σ' w7 ⟨X, vs, vv, hT7, hi7, hv7, hps7, hsz7, hsub⟩
    refine rn_sub hsub ?_
    obtain ⟨vav, vcv, rfl⟩ := hps7.own.form
    subst hlv
    obtain ⟨vv, hvv⟩ : ∃ vv, vv = Value.slice vav vs.length vcv := ⟨_, rfl⟩
    have hvv1 : vv.oneCell' = true := by rw [hvv]; rfl
    rw [← hvv] at hps7
    (repeat (first | refine pl_pure hT rfl rfl rfl ?_ | refine pl_nil ?_ | refine rn_seq ?_ | refine rn_plain ?_ | refine rn_block ?_ | refine rn_inBlock ?_ | refine rn_skip ?_ | refine rn_true rfl ?_ | refine rn_false rfl ?_ | refine rn_exit rfl ?_ | refine pl_not rfl rfl ?_))
    refine pl_op rfl rfl (opTo_allocN _ rfl zero_pr ?_)
    intro w8 b9 hb90 hs8 hk8 hp8
    have hps8 := hps7.keep0 hk8
    obtain ⟨i8, fl8, hb8⟩ := hps8.rs.blk
    (repeat (first | refine pl_pure hT rfl rfl rfl ?_ | refine pl_nil ?_ | refine rn_seq ?_ | refine rn_plain ?_ | refine rn_block ?_ | refine rn_inBlock ?_ | refine rn_skip ?_ | refine rn_true rfl ?_ | refine rn_false rfl ?_ | refine rn_exit rfl ?_ | refine pl_not rfl rfl ?_))
    refine pl_val _ rfl rfl (val_load1 hT rfl rfl rfl (Blk.cell hb8 (by rfl))) ?_
    (repeat (first | refine pl_pure hT rfl rfl rfl ?_ | refine pl_nil ?_ | refine rn_seq ?_ | refine rn_plain ?_ | refine rn_block ?_ | refine rn_inBlock ?_ | refine rn_skip ?_ | refine rn_true rfl ?_ | refine rn_false rfl ?_ | refine rn_exit rfl ?_ | refine pl_not rfl rfl ?_))
    refine pl_op rfl rfl (opTo_storeN [vv] rfl rfl rfl (by rw [hvv]; rfl) size_vs hp8 (by simp [pz]) (by intro u hu; simp at hu; subst hu; exact hvv1) ?_)
    intro w9 hs9 hk9 hp9
    have hsp9 : splice pz 0 [vv] = [vv, .slice none 0 0] := rfl
    rw [hsp9] at hp9
    have hk79 : Keep [] w7 w9 := hk8.trB hk9 (by omega)
    have hps9 := hps7.keep0 hk79
    obtain ⟨B9, hB9⟩ : ∃ B9, B9 = w9.heap.size := ⟨_, rfl⟩
    have hw9 : b9 < w9.heap.size := hp9.lt
    have hb9B : b9 < B9 := by omega
    have hbb9 : b < b9 := by have := hps7.rs.lt; omega
    have hb29 : b2 < b9 := by have := hps7.hp.lt; omega
    have hb39 : b3 < b9 := by have := hps7.hf.lt; omega
    have hT9 : TOT = bnd X (fun i => bnd (untilP (fun j => decide (ts.length ≤ j)) (stmtP ts fin vs 13) (ts.length + 1 - i) i) fun p => finP vs ([] ++ p.1)) := hT7
    (repeat (first | refine pl_pure hT rfl rfl rfl ?_ | refine pl_not rfl rfl ?_ | refine pl_nil ?_ | refine rn_inBlock ?_ | refine rn_skip ?_ | refine rn_true rfl ?_ | refine rn_false rfl ?_ | refine rn_exit rfl ?_))
    refine rn_seq ?_
    refine rn_with (fun σ' w' => ∃ (Y : Except Flt (List ST × Nat)) (sl : Value), TOT = bnd Y (fun p => finP vs p.1) ∧ (∃ a n c, sl = .slice a n c) ∧ (∀ p, Y = .ok p → RowS w' B9 sl p.1 ∧ szSs p.1 ≤ 3 * ts.length) ∧ Ps w w' b b2 b3 (.slice av ts.length cv) vv fin ts vs (sndX Y) ∧ Blk w' b9 [vv, sl] 26 ∧
      Sub [(2, .pointer (some ⟨b2, 0, none⟩)), (3, .pointer (some ⟨b3, 0, none⟩)), (6, .pointer (some ⟨b, 0, none⟩)), (9, .pointer (some ⟨b9, 0, none⟩))] σ') ?_ ?_
    rotate_left
    · intro fin2
      refine rn_block ?_
      refine rn_ind (fun m σ w' => ∃ (X : Except Flt Nat) (l : List ST) (sl : Value), m = (match X with | .ok i => ts.length + 1 - i | .error _ => 0) ∧ (∃ a n c, sl = .slice a n c) ∧
        σ = [(2, .pointer (some ⟨b2, 0, none⟩)), (3, .pointer (some ⟨b3, 0, none⟩)), (4, .slice av ts.length cv), (6, .pointer (some ⟨b, 0, none⟩)), (9, .pointer (some ⟨b9, 0, none⟩))] ∧
        TOT = bnd X (fun i => bnd (untilP (fun j => decide (ts.length ≤ j)) (stmtP ts fin vs 13) (ts.length + 1 - i) i) fun p => finP vs (l ++ p.1)) ∧ (∀ i, X = .ok i → l.length ≤ i ∧ i ≤ ts.length ∧ RowS w' B9 sl l ∧ szSs l ≤ 3 * i) ∧ Ps w w' b b2 b3 (.slice av ts.length cv) vv fin ts vs X ∧ Blk w' b9 [vv, sl] 26 ∧ B9 ≤ w'.heap.size)
        _ _ ?_ ⟨X, [], .slice none 0 0, rfl, ⟨_, _, _, rfl⟩, rfl, hT9, fun i hi => ⟨Nat.zero_le _, (hi7 i hi).2, RowS.nil _ _, Nat.zero_le _⟩, hps9, hp9, by omega⟩ ?_
      · exact ⟨rfl, rfl, rfl, rfl, rfl, trivial⟩
      rintro m σ w10 ih ⟨X, l, sl, rfl, hsl, rfl, hT10, hgood, hps10, hp10, hsz10⟩
      (repeat (first | refine pl_pure hT rfl rfl rfl ?_ | refine pl_nil ?_ | refine rn_seq ?_ | refine rn_plain ?_ | refine rn_block ?_ | refine rn_inBlock ?_ | refine rn_skip ?_ | refine rn_true rfl ?_ | refine rn_false rfl ?_ | refine rn_exit rfl ?_ | refine pl_not rfl rfl ?_))
      refine pl_op rfl rfl (opTo_call (fst := []) (cap := []) rfl rfl rfl rfl (by decide +kernel) ((rOk_ret hps10.rs).mono ?_))
      rintro r w11 ⟨rfl, hww⟩
      rw [hww]
      cases X with
      | error e =>
        have e1 : okX (.error e) = false := rfl
        rw [e1]
        (repeat (first | refine pl_pure hT rfl rfl rfl ?_ | refine pl_not rfl rfl ?_ | refine pl_nil ?_ | refine rn_inBlock ?_ | refine rn_skip ?_ | refine rn_true rfl ?_ | refine rn_false rfl ?_ | refine rn_exit rfl ?_))
        exact fin2 _ _ ⟨.error e, sl, hT10, hsl, fun p hp => (by cases hp), hps10, hp10, rfl, rfl, rfl, rfl, trivial⟩
      | ok i =>
        obtain ⟨hli, hil, hrow, hszl⟩ := hgood i rfl
        have hb10 : Blk w10 b (rgC (.slice av ts.length cv) vv fin i (0, 0)) 53 := hps10.rs
        have e1 : okX (.ok i) = true := rfl
        rw [e1]
        (repeat (first | refine pl_pure hT rfl rfl rfl ?_ | refine pl_nil ?_ | refine rn_seq ?_ | refine rn_plain ?_ | refine rn_block ?_ | refine rn_inBlock ?_ | refine rn_skip ?_ | refine rn_true rfl ?_ | refine rn_false rfl ?_ | refine rn_exit rfl ?_ | refine pl_not rfl rfl ?_))
        refine pl_val _ rfl rfl (val_load1 hT rfl rfl rfl (Blk.cell hb10 (by rfl))) ?_
        (repeat (first | refine pl_pure hT rfl rfl rfl ?_ | refine pl_nil ?_ | refine rn_seq ?_ | refine rn_plain ?_ | refine rn_block ?_ | refine rn_inBlock ?_ | refine rn_skip ?_ | refine rn_true rfl ?_ | refine rn_false rfl ?_ | refine rn_exit rfl ?_ | refine pl_not rfl rfl ?_))
        have hu : untilP (fun j => decide (ts.length ≤ j)) (stmtP ts fin vs 13) (ts.length + 1 - i) i = if decide (ts.length ≤ i) then .ok ([], i) else bnd (stmtP ts fin vs 13 i) fun (t, j) => bnd (untilP (fun j => decide (ts.length ≤ j)) (stmtP ts fin vs 13) (ts.length - i) j) fun (r, k) => .ok (t :: r, k) := by
          have e : ts.length + 1 - i = (ts.length - i) + 1 := by omega
          rw [e]
          rfl
        by_cases hlt : i < ts.length
        · refine pl_yes rfl rfl rfl rfl rfl (by first | (simp only [cmpP]; omega) | (simp [cmpP]; done) | (simp [cmpP]; omega)) ?_
          (repeat (first | refine pl_pure hT rfl rfl rfl ?_ | refine pl_nil ?_ | refine rn_seq ?_ | refine rn_plain ?_ | refine rn_block ?_ | refine rn_inBlock ?_ | refine rn_skip ?_ | refine rn_true rfl ?_ | refine rn_false rfl ?_ | refine rn_exit rfl ?_ | refine pl_not rfl rfl ?_))
          have hq : decide (ts.length ≤ i) = false := by simp; omega
          have hkd : Keep [] w10 w10.drew := (Keep.refl _ _).drew
          refine rn_draw (fun w' => True ∧ Blk w' b9 [vv, sl] 26) [7] hMix ?_
          have hS : True ∧ Blk w10.drew b9 [vv, sl] 26 := ⟨trivial, hkd.blk hp10 (by simp)⟩
          have hpsd := hps10.keep0 hkd
          have hrowd := hrow.keep hkd (by simp)
          have hszd : B9 ≤ w10.drew.heap.size := hsz10
          refine dr_pure 0 hT rfl (by decide +kernel) rfl rfl rfl ?_
          refine dr_val 1 sl rfl (by decide +kernel) rfl rfl (fun w9 hS9 => val_load1 hT rfl rfl rfl (hS9.2.cell (by rfl))) hS ?_
          refine dr_pure 2 hT rfl (by decide +kernel) rfl rfl rfl ?_
          refine dr_op 3 rfl (by decide +kernel) rfl rfl (opTo_call (fst := []) (cap := []) rfl rfl rfl rfl (by decide +kernel) ((rStmt_ret 13 0 i (by omega) hpsd.cx hpsd.rs).mono ?_))
          rintro r w12 ⟨hex, hk12⟩
          have hp12 := hk12.blk hS.2 (by simp; omega)
          refine ⟨fun _ => ⟨trivial, hp12⟩, ?_⟩
          have hrow12 := hrowd.keep hk12 (by simp; omega)
          obtain ⟨cs, rfl, hcs4, hcs1, hr12⟩ : ∃ cs : List Value, r = .agg cs.toArray ∧ cs.length = 12 ∧ (∀ u ∈ cs, u.oneCell' = true) ∧ Rs w12 b (.slice av ts.length cv) vv fin (sndX (stmtP ts fin vs 13 i)) := by
            cases hc : stmtP ts fin vs 13 i with
            | error e => rw [hc] at hex; obtain ⟨⟨cs, h1, h2, h3⟩, h4⟩ := hex; exact ⟨cs, h1, h2, h3, h4⟩
            | ok p => obtain ⟨t, j'⟩ := p; rw [hc] at hex; obtain ⟨⟨cs, F, h1, h2, _⟩, h4⟩ := hex; exact ⟨cs, h1, h2.length, h2.one, h4⟩
          have hps12 := hpsd.turnR hbw hbb2 hbb3 hk12 hr12
          obtain ⟨c0, c1, c2, c3, c4, c5, c6, c7, c8, c9, c10, c11, rfl⟩ := list12 hcs4
          refine dr_op 4 rfl (by decide +kernel) rfl rfl (opTo_sliceN _ _ rfl rfl (slice_stmt c0 c1 c2 c3 c4 c5 c6 c7 c8 c9 c10 c11) ?_)
          intro w13 g13 hg13 hs13 hk13 hb13
          have hp13 := hk13.blk hp12 (by simp)
          refine ⟨fun _ => ⟨trivial, hp13⟩, ?_⟩
          have hps13 := hps12.keep0 hk13
          have hrow13 := hrow12.keep hk13 (by simp)
          obtain ⟨xs, hown13⟩ := hrow13.own
          have hB13 : B9 ≤ w13.heap.size := by have := hk12.size; have := hk13.size; omega
          refine dr_op 5 rfl (by decide +kernel) rfl rfl (opTo_app B9 43 12 160 xs [c0, c1, c2, c3, c4, c5, c6, c7, c8, c9, c10, c11] rfl rfl rfl (by decide +kernel) hown13 (hb13.range (by rfl)) rfl hcs1 (by decide) (by simp only [maxLen]; omega) (by omega) hB13 ?_)
          intro g14 cap14 w14 hown14 hor14
          have hp14 := app_blk hp13 (own_ne hown13 hp13 (by decide)) hor14
          refine ⟨fun _ => ⟨trivial, hp14⟩, ?_⟩
          have hps14 := hps13.app (by omega) (by omega) (by omega) (by omega) hown13 hor14
          refine dr_pure 6 hT rfl (by decide +kernel) rfl rfl rfl ?_
          refine dr_op 7 rfl (by decide +kernel) rfl rfl (opTo_storeN [.slice (some ⟨g14, 0, none⟩) (l.length + 1) cap14] rfl rfl rfl rfl size_sts' hp14 (by simp) (by intro u hu'; simp at hu'; subst hu'; rfl) ?_)
          intro w15 hs15 hk15 hp15
          refine ⟨fun h => absurd (by simp) h, ?_⟩
          refine dr_done (by decide +kernel) ?_
          have hsp : splice [vv, sl] 1 [.slice (some ⟨g14, 0, none⟩) (l.length + 1) cap14] = [vv, .slice (some ⟨g14, 0, none⟩) (l.length + 1) cap14] := rfl
          rw [hsp] at hp15
          have hps15 := hps14.prog (by omega) (by omega) (by omega) (by omega) hp14 hk15
          have hB15 : B9 ≤ w15.heap.size := by
            have := hk15.size
            have : w13.heap.size ≤ w14.heap.size := by rcases hor14 with ⟨_, _, h2⟩ | ⟨_, h2, _⟩ <;> exact h2.size
            omega
          (repeat (first | refine pl_pure hT rfl rfl rfl ?_ | refine pl_nil ?_ | refine rn_seq ?_ | refine rn_plain ?_ | refine rn_block ?_ | refine rn_inBlock ?_ | refine rn_skip ?_ | refine rn_true rfl ?_ | refine rn_false rfl ?_ | refine rn_exit rfl ?_ | refine pl_not rfl rfl ?_))
          cases hc : stmtP ts fin vs 13 i with
          | error e =>
            rw [hc] at hps15
            refine rn_sub ?_ (ih _ _ _ ?_ ⟨.error e, l, .slice (some ⟨g14, 0, none⟩) (l.length + 1) cap14, rfl, ⟨_, _, _, rfl⟩, rfl, ?_, fun i hi => (by cases hi), hps15, hp15, hB15⟩)
            · exact ⟨rfl, rfl, rfl, rfl, rfl, trivial⟩
            · show 0 < ts.length + 1 - i
              omega
            · rw [hT10]
              show bnd (untilP _ _ (ts.length + 1 - i) i) _ = _
              rw [hu, hq, hc]
              rfl
          | ok p =>
            obtain ⟨t, j'⟩ := p
            have hadv := stmtP_ok vs 13 i _ hc
            have hsz := stmtP_size vs 13 i _ hc
            dsimp only at hadv hsz
            rw [hc] at hex hps15
            obtain ⟨⟨cs', F', he1, he2, he3⟩, hre⟩ := hex
            have ecs : cs' = [c0, c1, c2, c3, c4, c5, c6, c7, c8, c9, c10, c11] := by
              injection he1 with he1
              have := congrArg Array.toList he1
              simpa using this.symm
            subst ecs
            have hrow14 : RowS w14 B9 (.slice (some ⟨g14, 0, none⟩) (l.length + 1) cap14) (l ++ [t]) := by
              refine hrow13.app (he2.keep hk13 (fun c hc' => ⟨(he3 c hc').2, by simp⟩)) (fun c hc' => ?_) (fun ys hys => ?_) hor14
              · have h3 := he3 c hc'
                refine ⟨by omega, by have := hk13.size; omega, fun e' => ?_⟩
                obtain ⟨zs, hz⟩ := hrowd.own
                have := (hz.lt c e').2
                omega
              · have : ys = xs := hys.eq hown13
                subst this
                exact hown14
            have hrow15 := hrow14.keep hk15 (by simp; omega)
            refine rn_sub ?_ (ih _ _ _ ?_ ⟨.ok j', l ++ [t], .slice (some ⟨g14, 0, none⟩) (l.length + 1) cap14, rfl, ⟨_, _, _, rfl⟩, rfl, ?_, fun i' hi' => ?_, hps15, hp15, hB15⟩)
            · exact ⟨rfl, rfl, rfl, rfl, rfl, trivial⟩
            · show ts.length + 1 - j' < ts.length + 1 - i
              omega
            · rw [hT10]
              show bnd (untilP _ _ (ts.length + 1 - i) i) _ = bnd (untilP _ _ (ts.length + 1 - j') j') _
              rw [hu, hq, hc]
              show bnd (bnd (untilP _ _ (ts.length - i) j') _) _ = _
              rw [untilP_fuel (ts := ts) (fun i r hr => stmtP_ok vs 13 i r hr) (ts.length - i) (ts.length + 1 - j') j' hadv.2 (by omega) (by omega)]
              cases untilP (fun j => decide (ts.length ≤ j)) (stmtP ts fin vs 13) (ts.length + 1 - j') j' with
              | error e => rfl
              | ok q =>
                obtain ⟨r', k'⟩ := q
                show finP vs (l ++ t :: r') = finP vs (l ++ [t] ++ r')
                rw [List.append_assoc]
                rfl
            · injection hi' with hi'
              subst hi'
              refine ⟨by simp; omega, hadv.2, hrow15, ?_⟩
              rw [szSs_append]
              simp only [szSs]
              omega
        · refine pl_no rfl rfl rfl rfl rfl rfl (by first | (simp only [cmpP]; omega) | (simp [cmpP]; done) | (simp [cmpP]; omega)) ?_
          (repeat (first | refine pl_pure hT rfl rfl rfl ?_ | refine pl_not rfl rfl ?_ | refine pl_nil ?_ | refine rn_inBlock ?_ | refine rn_skip ?_ | refine rn_true rfl ?_ | refine rn_false rfl ?_ | refine rn_exit rfl ?_))
          have hq : decide (ts.length ≤ i) = true := by simp; omega
          refine fin2 _ _ ⟨.ok (l, i), sl, ?_, hsl, fun p hp => ?_, hps10, hp10, rfl, rfl, rfl, rfl, trivial⟩
          · rw [hT10]
            show bnd (untilP _ _ (ts.length + 1 - i) i) _ = _
            rw [hu, hq]
            show finP vs (l ++ []) = finP vs l
            rw [List.append_nil]
          · injection hp with hp
            subst hp
            exact ⟨hrow, by show szSs l ≤ _; omega⟩
    rintro σ' w10 ⟨Y, sl, hT10, ⟨sa, sn, sc, rfl⟩, hrow10, hps10, hp10, hsub⟩
    refine rn_sub hsub ?_
    (repeat (first | refine pl_pure hT rfl rfl rfl ?_ | refine pl_nil ?_ | refine rn_seq ?_ | refine rn_plain ?_ | refine rn_block ?_ | refine rn_inBlock ?_ | refine rn_skip ?_ | refine rn_true rfl ?_ | refine rn_false rfl ?_ | refine rn_exit rfl ?_ | refine pl_not rfl rfl ?_))
    refine pl_op rfl rfl (opTo_call (fst := []) (cap := []) rfl rfl rfl rfl (by decide +kernel) ((rOk_ret hps10.rs).mono ?_))
    rintro r w11 ⟨rfl, hww⟩
    rw [hww]
    cases Y with
    | error e =>
      have e1 : okX (sndX (.error e : Except Flt (List ST × Nat))) = false := rfl
      rw [e1]
      (repeat (first | refine pl_pure hT rfl rfl rfl ?_ | refine pl_nil ?_ | refine rn_seq ?_ | refine rn_plain ?_ | refine rn_block ?_ | refine rn_inBlock ?_ | refine rn_skip ?_ | refine rn_true rfl ?_ | refine rn_false rfl ?_ | refine rn_exit rfl ?_ | refine pl_not rfl rfl ?_))
      obtain ⟨he, i10, hb10⟩ : e.1 ≠ 0 ∧ ∃ i, Blk w10 b (rgC (.slice av ts.length cv) vv fin i e) 53 := hps10.rs
      have hkd : Keep [] w10 w10.drew := (Keep.refl _ _).drew
      refine rn_draw (fun w' => True ∧ Blk w' b (rgC (.slice av ts.length cv) vv fin i10 e) 53) [6] hMix ?_
      have hS : True ∧ Blk w10.drew b (rgC (.slice av ts.length cv) vv fin i10 e) 53 := ⟨trivial, hkd.blk hb10 (by simp)⟩
      refine dr_any 0 _ rfl (by decide +kernel) rfl rfl (fun w => val_build _ rfl rfl built_pr0 w) ?_
      refine dr_pure 1 hT rfl (by decide +kernel) rfl rfl rfl ?_
      refine dr_pure 2 hT rfl (by decide +kernel) rfl rfl rfl ?_
      refine dr_pure 3 hT rfl (by decide +kernel) rfl rfl rfl ?_
      refine dr_val 4 _ rfl (by decide +kernel) rfl rfl (fun w9 hS9 => val_load [.int .i64 e.1, .int .i64 e.2] hT rfl rfl rfl (hS9.2.range (by rfl))) hS ?_
      refine dr_op 5 rfl (by decide +kernel) rfl rfl (opTo_storeN pz rfl rfl rfl rfl size_pr (hkd.blk hps10.hp (by simp)) (by simp [pz]) (one_pr _ _ _ _ _ _) ?_)
      intro w11 hs11 hk11 hp11
      rw [splice_whole (by rfl)] at hp11
      refine ⟨fun _ => ⟨trivial, hk11.blk hS.2 (by simp; exact hbb2)⟩, ?_⟩
      have hf11 := hk11.blk (hkd.blk hps10.hf (by simp)) (by simp; omega)
      refine dr_op 6 rfl (by decide +kernel) rfl rfl (opTo_storeN [.int .i64 e.1, .int .i64 e.2] rfl rfl rfl rfl size_fault hf11 (by simp) (one_fault _ _) ?_)
      intro w12 hs12 hk12 hf12
      rw [splice_whole (by rfl)] at hf12
      have hp12 := hk12.blk hp11 (by simp; omega)
      refine ⟨fun h => absurd (by simp) h, ?_⟩
      refine dr_done (by decide +kernel) ?_
      refine rn_retCC Tryz.func7 rfl rfl rfl (blk_loadVar hT hp12 rfl) (blk_loadVar hT hf12 rfl) ⟨?_, ((hps10.keep.tr hkd).trB hk11 hb2w).trB hk12 hb3w⟩
      rw [hT10]
      exact ⟨_, fun _ => False, rfl, progV_nil, capV_nil, fun _ h => h.elim⟩
    | ok p =>
      obtain ⟨l', k'⟩ := p
      obtain ⟨hrow, hsz⟩ := hrow10 _ rfl
      dsimp only at hrow hsz
      have e1 : okX (sndX (.ok (l', k') : Except Flt (List ST × Nat))) = true := rfl
      rw [e1]
      (repeat (first | refine pl_pure hT rfl rfl rfl ?_ | refine pl_nil ?_ | refine rn_seq ?_ | refine rn_plain ?_ | refine rn_block ?_ | refine rn_inBlock ?_ | refine rn_skip ?_ | refine rn_true rfl ?_ | refine rn_false rfl ?_ | refine rn_exit rfl ?_ | refine pl_not rfl rfl ?_))
      refine pl_val _ rfl rfl (val_load [vv, .slice sa sn sc] hT rfl rfl rfl (hp10.range (by rfl))) ?_
      have hcap : sn ≤ sc := by
        obtain ⟨_, hown⟩ := hrow.own
        exact own_cap hown
      obtain ⟨Fs, hFs1, hFs2⟩ := hrow.stmts
      have hprog : ProgV (fun c => vv.ownBlock = some c ∨ Fs c) w10 (.agg #[vv, .slice sa sn sc]) vs l' := ⟨_, _, rfl, (vars_own hps10.own).mono (fun _ h => .inl h), hFs1.mono (fun _ h => .inr h)⟩
      have hFb : ∀ c, (vv.ownBlock = some c ∨ Fs c) → w.heap.size ≤ c ∧ c < w10.heap.size ∧ c ≠ b2 ∧ c ≠ b3 := by
        rintro c (h | h)
        · have h1 := hps10.own.lt c h
          exact ⟨h1.1, h1.2, fun e => own_ne hps10.own hps10.hp (by decide) c h e.symm, fun e => own_ne hps10.own hps10.hf (by decide) c h e.symm⟩
        · have h1 := hFs2 c h
          exact ⟨by omega, h1.2, by omega, by omega⟩
      refine pl_op rfl rfl (opTo_call (fst := []) (cap := []) rfl rfl rfl rfl (by decide +kernel) ((refFault_ret hprog (fun c h => (hFb c h).2.1) hps10.nm (by omega)).mono ?_))
      rintro r w11 ⟨rfl, hk11⟩
      obtain ⟨c, hc⟩ : ∃ c, c = progFault vs l' := ⟨_, rfl⟩
      rw [← hc]
      have hps11 := hps10.keep0 hk11
      have hp11 := hk11.blk hp10 (by simp)
      (repeat (first | refine pl_pure hT rfl rfl rfl ?_ | refine pl_nil ?_ | refine rn_seq ?_ | refine rn_plain ?_ | refine rn_block ?_ | refine rn_inBlock ?_ | refine rn_skip ?_ | refine rn_true rfl ?_ | refine rn_false rfl ?_ | refine rn_exit rfl ?_ | refine pl_not rfl rfl ?_))
      by_cases hc0 : c = 0
      · refine pl_no rfl rfl rfl rfl rfl rfl (by first | (simp only [cmpP]; omega) | (simp [cmpP]; done) | (simp [cmpP]; omega)) ?_
        (repeat (first | refine pl_pure hT rfl rfl rfl ?_ | refine pl_nil ?_ | refine rn_seq ?_ | refine rn_plain ?_ | refine rn_block ?_ | refine rn_inBlock ?_ | refine rn_skip ?_ | refine rn_true rfl ?_ | refine rn_false rfl ?_ | refine rn_exit rfl ?_ | refine pl_not rfl rfl ?_))
        refine pl_val _ rfl rfl (val_load [vv, .slice sa sn sc] hT rfl rfl rfl (hp11.range (by rfl))) ?_
        refine pl_val _ rfl rfl (val_build _ rfl rfl built_f0 w11) ?_
        refine pl_op rfl rfl (opTo_storeN [vv, .slice sa sn sc] rfl rfl rfl rfl size_pr hps11.hp (by simp [pz]) (by intro u hu; simp at hu; rcases hu with rfl | rfl; exact hvv1; rfl) ?_)
        intro w12 hs12 hk12 hq12
        rw [splice_whole (by rfl)] at hq12
        have hf12 := hk12.blk hps11.hf (by simp; omega)
        refine pl_op rfl rfl (opTo_storeN [.int .i64 0, .int .i64 0] rfl rfl rfl rfl size_fault hf12 (by simp) (one_fault _ _) ?_)
        intro w13 hs13 hk13 hf13
        rw [splice_whole (by rfl)] at hf13
        have hq13 := hk13.blk hq12 (by simp; omega)
        (repeat (first | refine pl_pure hT rfl rfl rfl ?_ | refine pl_nil ?_ | refine rn_seq ?_ | refine rn_plain ?_ | refine rn_block ?_ | refine rn_inBlock ?_ | refine rn_skip ?_ | refine rn_true rfl ?_ | refine rn_false rfl ?_ | refine rn_exit rfl ?_ | refine pl_not rfl rfl ?_))
        refine rn_retCC Tryz.func7 rfl rfl rfl (blk_loadVar hT hq13 rfl) (blk_loadVar hT hf13 rfl) ⟨?_, (hps11.keep.trB hk12 hb2w).trB hk13 hb3w⟩
        have e : TOT = .ok (vs, l') := by
          rw [hT10]
          show finP vs l' = _
          unfold finP
          rw [← hc, hc0]
          rfl
        rw [e]
        have hs11' := hk11.size
        have hs12' := hk12.size
        have hs13' := hk13.size
        refine ⟨_, _, rfl, ((hprog.keep hk11 (fun c h => ⟨(hFb c h).2.1, by simp⟩)).keep hk12 (fun c h => ⟨by have := hFb c h; omega, by simp; exact (hFb c h).2.2.1⟩)).keep hk13 (fun c h => ⟨by have := hFb c h; omega, by simp; exact (hFb c h).2.2.2⟩), ⟨_, sa, sn, sc, rfl, hcap⟩, fun c h => ⟨(hFb c h).1, by have := hFb c h; omega⟩⟩
      · refine pl_yes rfl rfl rfl rfl rfl (by first | (simp only [cmpP]; omega) | (simp [cmpP]; done) | (simp [cmpP]; omega)) ?_
        (repeat (first | refine pl_pure hT rfl rfl rfl ?_ | refine pl_nil ?_ | refine rn_seq ?_ | refine rn_plain ?_ | refine rn_block ?_ | refine rn_inBlock ?_ | refine rn_skip ?_ | refine rn_true rfl ?_ | refine rn_false rfl ?_ | refine rn_exit rfl ?_ | refine pl_not rfl rfl ?_))
        refine pl_val _ rfl rfl (val_build _ rfl rfl built_pr0 w11) ?_
        (repeat (first | refine pl_pure hT rfl rfl rfl ?_ | refine pl_nil ?_ | refine rn_seq ?_ | refine rn_plain ?_ | refine rn_block ?_ | refine rn_inBlock ?_ | refine rn_skip ?_ | refine rn_true rfl ?_ | refine rn_false rfl ?_ | refine rn_exit rfl ?_ | refine pl_not rfl rfl ?_))
        refine pl_op rfl rfl (opTo_call (fst := []) (cap := []) rfl rfl rfl rfl (by decide +kernel) ((faultR_ret c (-1) w11).mono ?_))
        rintro r w12 ⟨rfl, hk12⟩
        have hps12 := hps11.keep0 hk12
        refine pl_op rfl rfl (opTo_storeN pz rfl rfl rfl rfl size_pr hps12.hp (by simp [pz]) (one_pr _ _ _ _ _ _) ?_)
        intro w13 hs13 hk13 hq13
        rw [splice_whole (by rfl)] at hq13
        have hf13 := hk13.blk hps12.hf (by simp; omega)
        refine pl_op rfl rfl (opTo_storeN [.int .i64 c, .int .i64 (-1)] rfl rfl rfl rfl size_fault hf13 (by simp) (one_fault _ _) ?_)
        intro w14 hs14 hk14 hf14
        rw [splice_whole (by rfl)] at hf14
        have hq14 := hk14.blk hq13 (by simp; omega)
        (repeat (first | refine pl_pure hT rfl rfl rfl ?_ | refine pl_nil ?_ | refine rn_seq ?_ | refine rn_plain ?_ | refine rn_block ?_ | refine rn_inBlock ?_ | refine rn_skip ?_ | refine rn_true rfl ?_ | refine rn_false rfl ?_ | refine rn_exit rfl ?_ | refine pl_not rfl rfl ?_))
        refine rn_retCC Tryz.func7 rfl rfl rfl (blk_loadVar hT hq14 rfl) (blk_loadVar hT hf14 rfl) ⟨?_, (hps12.keep.trB hk13 hb2w).trB hk14 hb3w⟩
        have e : TOT = .error (c, -1) := by
          rw [hT10]
          show finP vs l' = _
          unfold finP
          rw [← hc, if_pos hc0]
        rw [e]
        exact ⟨_, fun _ => False, rfl, progV_nil, capV_nil, fun _ h => h.elim⟩
  · refine pl_yes rfl rfl rfl rfl rfl (by first | (simp only [cmpP]; omega) | (simp [cmpP]; done) | (simp [cmpP]; omega)) ?_
    (repeat (first | refine pl_pure hT rfl rfl rfl ?_ | refine pl_nil ?_ | refine rn_seq ?_ | refine rn_plain ?_ | refine rn_block ?_ | refine rn_inBlock ?_ | refine rn_skip ?_ | refine rn_true rfl ?_ | refine rn_false rfl ?_ | refine rn_exit rfl ?_ | refine pl_not rfl rfl ?_))
    have hkd : Keep [] w5 w5.drew := (Keep.refl _ _).drew
    refine rn_draw (fun w' => True ∧ Blk w' b5 [.int .i64 fa, .int .i64 fb] 28) [3] hMix ?_
    have hS : True ∧ Blk w5.drew b5 [.int .i64 fa, .int .i64 fb] 28 := ⟨trivial, hkd.blk hq5 (by simp)⟩
    refine dr_any 0 _ rfl (by decide +kernel) rfl rfl (fun w => val_build _ rfl rfl built_pr0 w) ?_
    refine dr_val 1 _ rfl (by decide +kernel) rfl rfl (fun w9 hS9 => val_load [.int .i64 fa, .int .i64 fb] hT rfl rfl rfl (hS9.2.range (by rfl))) hS ?_
    refine dr_op 2 rfl (by decide +kernel) rfl rfl (opTo_storeN pz rfl rfl rfl rfl size_pr (hkd.blk hp5 (by simp)) (by simp [pz]) (one_pr _ _ _ _ _ _) ?_)
    intro w6 hs6 hk6 hp6
    rw [splice_whole (by rfl)] at hp6
    refine ⟨fun _ => ⟨trivial, hk6.blk hS.2 (by simp; omega)⟩, ?_⟩
    have hf6 := hk6.blk (hkd.blk hf5 (by simp)) (by simp; omega)
    refine dr_op 3 rfl (by decide +kernel) rfl rfl (opTo_storeN [.int .i64 fa, .int .i64 fb] rfl rfl rfl rfl size_fault hf6 (by simp) (one_fault _ _) ?_)
    intro w7 hs7 hk7 hf7
    rw [splice_whole (by rfl)] at hf7
    have hp7 := hk7.blk hp6 (by simp; omega)
    refine ⟨fun h => absurd (by simp) h, ?_⟩
    refine dr_done (by decide +kernel) ?_
    have hX : parseOf l = .error (fa, fb) := by
      unfold parseOf
      rw [← hfab, if_pos hfa]
    refine rn_retCC Tryz.func7 rfl rfl rfl (blk_loadVar hT hp7 rfl) (blk_loadVar hT hf7 rfl) ⟨?_, ((hk05.tr hkd).trB hk6 (by omega)).trB hk7 (by omega)⟩
    rw [hX]
    exact ⟨_, fun _ => False, rfl, progV_nil, capV_nil, fun _ h => h.elim⟩
end E
end Go.Proofs.YthbkcadiejfgaacGreatDoor

/- The law of reading. -/
namespace Go.Proofs.YthbkcadiejfgaacGreatDoor
set_option maxRecDepth 20000
set_option maxHeartbeats 4000000
namespace E
open Go.Proofs

theorem parseReads_ret (hC : PkC) (l : List UInt8) (k : Int) {w : World} (hw : Lw w) : Ret Tryz.prog 3 [.string (str l), .int .i64 k] w fun r w' => r = .bool true ∧ Keep [] w w' := by
  refine ret_of 46 Tryz.func3 rfl rfl (by simp) ?_
  (repeat (first | refine pl_pure hT rfl rfl rfl ?_ | refine pl_nil ?_ | refine rn_seq ?_ | refine rn_plain ?_ | refine rn_block ?_ | refine rn_inBlock ?_ | refine rn_skip ?_ | refine rn_true rfl ?_ | refine rn_false rfl ?_ | refine rn_exit rfl ?_ | refine pl_not rfl rfl ?_))
  refine pl_op rfl rfl (opTo_call (fst := []) (cap := []) rfl rfl rfl rfl (by decide +kernel) ((parseBegun_ret hC hw).mono ?_))
  rintro r w0 ⟨rfl, hk0⟩
  have hw0 := hw.keep hk0
  (repeat (first | refine pl_pure hT rfl rfl rfl ?_ | refine pl_nil ?_ | refine rn_seq ?_ | refine rn_plain ?_ | refine rn_block ?_ | refine rn_inBlock ?_ | refine rn_skip ?_ | refine rn_true rfl ?_ | refine rn_false rfl ?_ | refine rn_exit rfl ?_ | refine pl_not rfl rfl ?_))
  refine pl_val _ rfl rfl (val_len l (by decide +kernel) rfl rfl w0) ?_
  by_cases hl : 9000 < l.length
  · refine pl_yes rfl rfl rfl rfl rfl (by first | (simp only [cmpP]; omega) | (simp [cmpP]; done) | (simp [cmpP]; omega)) ?_
    (repeat (first | refine pl_pure hT rfl rfl rfl ?_ | refine pl_nil ?_ | refine rn_seq ?_ | refine rn_plain ?_ | refine rn_block ?_ | refine rn_inBlock ?_ | refine rn_skip ?_ | refine rn_true rfl ?_ | refine rn_false rfl ?_ | refine rn_exit rfl ?_ | refine pl_not rfl rfl ?_))
    exact rn_ret Tryz.func3 (.inl ⟨_, rfl, rfl⟩) ⟨rfl, hk0⟩
  refine pl_no rfl rfl rfl rfl rfl rfl (by first | (simp only [cmpP]; omega) | (simp [cmpP]; done) | (simp [cmpP]; omega)) ?_
  (repeat (first | refine pl_pure hT rfl rfl rfl ?_ | refine pl_nil ?_ | refine rn_seq ?_ | refine rn_plain ?_ | refine rn_block ?_ | refine rn_inBlock ?_ | refine rn_skip ?_ | refine rn_true rfl ?_ | refine rn_false rfl ?_ | refine rn_exit rfl ?_ | refine pl_not rfl rfl ?_))
  obtain ⟨⟨vs, body⟩, hP⟩ : ∃ p, p = prgOf (parseOf l) := ⟨_, rfl⟩
  obtain ⟨⟨fa, fb⟩, hfl⟩ : ∃ f, f = fltOf (parseOf l) := ⟨_, rfl⟩
  have hbd : vs.length ≤ 100000 ∧ szSs body ≤ 100000 := by
    cases hX : parseOf l with
    | error e =>
      rw [hX] at hP
      injection hP with h1 h2
      subst h1 h2
      exact ⟨Nat.zero_le _, Nat.zero_le _⟩
    | ok p =>
      rw [hX] at hP
      have hP' : (vs, body) = p := hP
      subst hP'
      have := parseOf_size hX
      omega
  refine pl_op rfl rfl (opTo_call (fst := []) (cap := []) rfl rfl rfl rfl (by decide +kernel) ((hC.parse l (by omega) hw0).mono ?_))
  rintro r w11 ⟨⟨x, F1, rfl, hprog1, hcap1, hF1⟩, hk10⟩
  rw [← hP] at hprog1
  rw [← hfl]
  have hq := hprog1
  obtain ⟨vv, bv, rfl, hv, hb⟩ := hq
  obtain ⟨av1, cv1, rfl⟩ := hv.form
  obtain ⟨ab1, cb1, rfl⟩ := hb.form
  clear hv hb
  have hin1 : In F1 w11 := fun c hc => (hF1 c hc).2
  (repeat (first | refine pl_pure hT rfl rfl rfl ?_ | refine pl_nil ?_ | refine rn_seq ?_ | refine rn_plain ?_ | refine rn_block ?_ | refine rn_inBlock ?_ | refine rn_skip ?_ | refine rn_true rfl ?_ | refine rn_false rfl ?_ | refine rn_exit rfl ?_ | refine pl_not rfl rfl ?_))
  refine pl_op rfl rfl (opTo_allocN _ rfl zero_pr ?_)
  intro w12 p1 hp10 hs12 hk12 hp2
  refine pl_op rfl rfl (opTo_allocN _ rfl zero_fault ?_)
  intro w13 f1 hf10 hs13 hk13 hf3
  have hp3 := hk13.blk hp2 (by simp)
  (repeat (first | refine pl_pure hT rfl rfl rfl ?_ | refine pl_nil ?_ | refine rn_seq ?_ | refine rn_plain ?_ | refine rn_block ?_ | refine rn_inBlock ?_ | refine rn_skip ?_ | refine rn_true rfl ?_ | refine rn_false rfl ?_ | refine rn_exit rfl ?_ | refine pl_not rfl rfl ?_))
  refine pl_op rfl rfl (opTo_storeN [.slice av1 vs.length cv1, .slice ab1 body.length cb1] rfl rfl rfl rfl size_pr hp3 (by simp [pz]) (one_pr _ _ _ _ _ _) ?_)
  intro w14 hs14 hk14 hp4
  rw [splice_whole (by rfl)] at hp4
  have hf4 := hk14.blk hf3 (by simp; omega)
  refine pl_op rfl rfl (opTo_storeN [.int .i64 ((fa, fb) : Flt).1, .int .i64 ((fa, fb) : Flt).2] rfl rfl rfl rfl size_fault hf4 (by simp) (one_fault _ _) ?_)
  intro w15 hs15 hk15 hf1
  rw [splice_whole (by rfl)] at hf1
  have hp1 := hk15.blk hp4 (by simp; omega)
  have hk1 : Keep [] w11 w15 := ((hk12.tr hk13).trB hk14 (by omega)).trB hk15 (by omega)
  clear hp2 hf3 hp3 hp4 hf4 hk12 hk13 hk14 hk15
  have hw1 := (hw0.keep hk10).keep hk1
  (repeat (first | refine pl_pure hT rfl rfl rfl ?_ | refine pl_nil ?_ | refine rn_seq ?_ | refine rn_plain ?_ | refine rn_block ?_ | refine rn_inBlock ?_ | refine rn_skip ?_ | refine rn_true rfl ?_ | refine rn_false rfl ?_ | refine rn_exit rfl ?_ | refine pl_not rfl rfl ?_))
  refine pl_op rfl rfl (opTo_call (fst := []) (cap := []) rfl rfl rfl rfl (by decide +kernel) ((parseR_ret l (by omega) hw1).mono ?_))
  rintro r w61 ⟨⟨x, F6, rfl, hprog6, hcap6, hF6⟩, hk60⟩
  rw [← hP] at hprog6
  rw [← hfl]
  have hq := hprog6
  obtain ⟨vv, bv, rfl, hv, hb⟩ := hq
  obtain ⟨av6, cv6, rfl⟩ := hv.form
  obtain ⟨ab6, cb6, rfl⟩ := hb.form
  clear hv hb
  have hin6 : In F6 w61 := fun c hc => (hF6 c hc).2
  (repeat (first | refine pl_pure hT rfl rfl rfl ?_ | refine pl_nil ?_ | refine rn_seq ?_ | refine rn_plain ?_ | refine rn_block ?_ | refine rn_inBlock ?_ | refine rn_skip ?_ | refine rn_true rfl ?_ | refine rn_false rfl ?_ | refine rn_exit rfl ?_ | refine pl_not rfl rfl ?_))
  refine pl_op rfl rfl (opTo_allocN _ rfl zero_pr ?_)
  intro w62 p6 hp60 hs62 hk62 hp2
  refine pl_op rfl rfl (opTo_allocN _ rfl zero_fault ?_)
  intro w63 f6 hf60 hs63 hk63 hf3
  have hp3 := hk63.blk hp2 (by simp)
  (repeat (first | refine pl_pure hT rfl rfl rfl ?_ | refine pl_nil ?_ | refine rn_seq ?_ | refine rn_plain ?_ | refine rn_block ?_ | refine rn_inBlock ?_ | refine rn_skip ?_ | refine rn_true rfl ?_ | refine rn_false rfl ?_ | refine rn_exit rfl ?_ | refine pl_not rfl rfl ?_))
  refine pl_op rfl rfl (opTo_storeN [.slice av6 vs.length cv6, .slice ab6 body.length cb6] rfl rfl rfl rfl size_pr hp3 (by simp [pz]) (one_pr _ _ _ _ _ _) ?_)
  intro w64 hs64 hk64 hp4
  rw [splice_whole (by rfl)] at hp4
  have hf4 := hk64.blk hf3 (by simp; omega)
  refine pl_op rfl rfl (opTo_storeN [.int .i64 ((fa, fb) : Flt).1, .int .i64 ((fa, fb) : Flt).2] rfl rfl rfl rfl size_fault hf4 (by simp) (one_fault _ _) ?_)
  intro w65 hs65 hk65 hf6
  rw [splice_whole (by rfl)] at hf6
  have hp6 := hk65.blk hp4 (by simp; omega)
  have hk6 : Keep [] w61 w65 := ((hk62.tr hk63).trB hk64 (by omega)).trB hk65 (by omega)
  clear hp2 hf3 hp3 hp4 hf4 hk62 hk63 hk64 hk65
  have hka : Keep [] w15 w65 := hk60.tr hk6
  have hP1 := hprog1.keep (hk1.tr hka) hin1.stays
  have hP2 := hprog6.keep hk6 hin6.stays
  have hI1 := hin1.keep (hk1.tr hka)
  have hI2 := hin6.keep hk6
  have hb1 := hka.blk hp1 (by simp)
  have hg1 := hka.blk hf1 (by simp)
  (repeat (first | refine pl_pure hT rfl rfl rfl ?_ | refine pl_nil ?_ | refine rn_seq ?_ | refine rn_plain ?_ | refine rn_block ?_ | refine rn_inBlock ?_ | refine rn_skip ?_ | refine rn_true rfl ?_ | refine rn_false rfl ?_ | refine rn_exit rfl ?_ | refine pl_not rfl rfl ?_))
  refine pl_val _ rfl rfl (val_load [.int .i64 fa, .int .i64 fb] hT rfl rfl rfl (hg1.range (by rfl))) ?_
  refine pl_val _ rfl rfl (val_load [.int .i64 fa, .int .i64 fb] hT rfl rfl rfl (hf6.range (by rfl))) ?_
  refine pl_val _ rfl rfl (val_eqTwo fa fa fb fb true (by decide +kernel) rfl rfl rfl (by simp) w65) ?_
  (repeat (first | refine pl_pure hT rfl rfl rfl ?_ | refine pl_nil ?_ | refine rn_seq ?_ | refine rn_plain ?_ | refine rn_block ?_ | refine rn_inBlock ?_ | refine rn_skip ?_ | refine rn_true rfl ?_ | refine rn_false rfl ?_ | refine rn_exit rfl ?_ | refine pl_not rfl rfl ?_))
  refine pl_val _ rfl rfl (val_load [.slice av1 vs.length cv1, .slice ab1 body.length cb1] hT rfl rfl rfl (hb1.range (by rfl))) ?_
  refine pl_val _ rfl rfl (val_load [.slice av6 vs.length cv6, .slice ab6 body.length cb6] hT rfl rfl rfl (hp6.range (by rfl))) ?_
  refine pl_op rfl rfl (opTo_call (fst := []) (cap := []) rfl rfl rfl rfl (by decide +kernel) ((refSame_ret hP1 hP2 hI1 hI2 hbd.1 hbd.2).mono ?_))
  rintro r w3 ⟨rfl, hk3⟩
  have er : eqP (vs, body).1 (vs, body).2 (vs, body).1 (vs, body).2 = true := eqP_refl _ _
  rw [er]
  (repeat (first | refine pl_pure hT rfl rfl rfl ?_ | refine pl_nil ?_ | refine rn_seq ?_ | refine rn_plain ?_ | refine rn_block ?_ | refine rn_inBlock ?_ | refine rn_skip ?_ | refine rn_true rfl ?_ | refine rn_false rfl ?_ | refine rn_exit rfl ?_ | refine pl_not rfl rfl ?_))
  refine pl_op rfl rfl (opTo_call (fst := []) (cap := []) rfl rfl rfl rfl (by decide +kernel) ((hC.word k (hw.keep ((((hk0.tr hk10).tr hk1).tr hka).tr hk3))).mono ?_))
  rintro r w4 ⟨rfl, hk4⟩
  (repeat (first | refine pl_pure hT rfl rfl rfl ?_ | refine pl_nil ?_ | refine rn_seq ?_ | refine rn_plain ?_ | refine rn_block ?_ | refine rn_inBlock ?_ | refine rn_skip ?_ | refine rn_true rfl ?_ | refine rn_false rfl ?_ | refine rn_exit rfl ?_ | refine pl_not rfl rfl ?_))
  refine pl_op rfl rfl (opTo_call (fst := []) (cap := []) rfl rfl rfl rfl (by decide +kernel) ((wordR_ret k w4).mono ?_))
  rintro r w5 ⟨rfl, hk5⟩
  refine pl_val _ rfl rfl (val_eqStr (str (wordI k)) (str (wordI k)) true rfl rfl rfl (by simp) w5) ?_
  (repeat (first | refine pl_pure hT rfl rfl rfl ?_ | refine pl_nil ?_ | refine rn_seq ?_ | refine rn_plain ?_ | refine rn_block ?_ | refine rn_inBlock ?_ | refine rn_skip ?_ | refine rn_true rfl ?_ | refine rn_false rfl ?_ | refine rn_exit rfl ?_ | refine pl_not rfl rfl ?_))
  refine pl_op rfl rfl (opTo_call (fst := []) (cap := []) rfl rfl rfl rfl (by decide +kernel) ((hC.verb k (hw.keep ((((((hk0.tr hk10).tr hk1).tr hka).tr hk3).tr hk4).tr hk5))).mono ?_))
  rintro r w6 ⟨rfl, hk6'⟩
  (repeat (first | refine pl_pure hT rfl rfl rfl ?_ | refine pl_nil ?_ | refine rn_seq ?_ | refine rn_plain ?_ | refine rn_block ?_ | refine rn_inBlock ?_ | refine rn_skip ?_ | refine rn_true rfl ?_ | refine rn_false rfl ?_ | refine rn_exit rfl ?_ | refine pl_not rfl rfl ?_))
  refine pl_op rfl rfl (opTo_call (fst := []) (cap := []) rfl rfl rfl rfl (by decide +kernel) ((verbR_ret k w6).mono ?_))
  rintro r w7 ⟨rfl, hk7⟩
  refine pl_val _ rfl rfl (val_eqStr (str (verbI k)) (str (verbI k)) true rfl rfl rfl (by simp) w7) ?_
  (repeat (first | refine pl_pure hT rfl rfl rfl ?_ | refine pl_nil ?_ | refine rn_seq ?_ | refine rn_plain ?_ | refine rn_block ?_ | refine rn_inBlock ?_ | refine rn_skip ?_ | refine rn_true rfl ?_ | refine rn_false rfl ?_ | refine rn_exit rfl ?_ | refine pl_not rfl rfl ?_))
  exact rn_ret Tryz.func3 (.inl ⟨_, rfl, rfl⟩) ⟨rfl, ((((((hk0.tr hk10).tr hk1).tr hka).tr hk3).tr hk4).tr hk5).tr (hk6'.tr hk7)⟩
end E
end Go.Proofs.YthbkcadiejfgaacGreatDoor

/- Plain mathematics for the landed reader: tokens that are looked at by their texts alone. -/
namespace Go.Proofs.YthbkcadiejfgaacGreatDoor
set_option maxRecDepth 20000
set_option maxHeartbeats 4000000
namespace E

/-- A text that no number begins as. -/
def headB : List UInt8 → Bool
  | [] => false
  | c :: _ => letB c || parenB c
theorem bit_numT {c : UInt8} {r t : List UInt8} {v : Int} (h : bit c r = .tok t true v) : parenB c = false ∧ letB c = false := by
  unfold bit at h
  split at h
  · cases h
  split at h
  · cases h
  rename_i h1
  split at h
  · cases h
  rename_i h2
  exact ⟨by simpa using h1, by simpa using h2⟩
theorem fine_get : ∀ {ts : List Tok}, fine ts → ∀ {i : Nat} {t : Tok}, ts[i]? = some t → ∃ c u r0, t.text = c :: u ∧ bit c r0 = .tok (c :: u) t.num t.val
  | [], _, _, _, h => by simp at h
  | x :: r, hf, 0, t, h => by
    simp only [List.getElem?_cons_zero, Option.some.injEq] at h
    subst h
    exact hf.1
  | x :: r, hf, i + 1, t, h => by
    simp only [List.getElem?_cons_succ] at h
    exact fine_get hf.2 h
theorem isT_none {ts : List Tok} {i : Nat} {s : List UInt8} (ht : ts[i]? = none) : isT ts i s = false := by
  unfold isT
  rw [ht]
theorem isT_get {ts : List Tok} {i : Nat} {t : Tok} {s : List UInt8} (h : fine ts) (ht : ts[i]? = some t) (hs : headB s = true) : isT ts i s = (t.text == s) := by
  unfold isT
  rw [ht]
  cases hn : t.num with
  | false => simp [hn]
  | true =>
    obtain ⟨c, u, r0, h1, h2⟩ := fine_get h ht
    rw [hn] at h2
    obtain ⟨h3, h4⟩ := bit_numT h2
    have hne : ¬ t.text = s := by
      intro e
      rw [← e, h1] at hs
      simp [headB, h3, h4] at hs
    simp [hn, hne]
/-- The first kind from k on, n of them, that is written so; 0: none is. -/
def kindL (of : Nat → List UInt8) (s : List UInt8) : Nat → Nat → Nat
  | _, 0 => 0
  | k, n + 1 => if of k == s then k else kindL of s (k + 1) n
theorem kindL_le {of : Nat → List UInt8} {s : List UInt8} : ∀ (n k : Nat), kindL of s k n = 0 ∨ (k ≤ kindL of s k n ∧ kindL of s k n < k + n)
  | 0, k => .inl rfl
  | n + 1, k => by
    unfold kindL
    split
    · exact .inr ⟨Nat.le_refl _, by omega⟩
    · rcases kindL_le n (k + 1) with h | h
      · exact .inl h
      · exact .inr ⟨by omega, by omega⟩
theorem pickK_kind {ts : List Tok} {i : Nat} {t : Tok} {of : Nat → List UInt8} {most : Nat} (h : fine ts) (ht : ts[i]? = some t) (hof : ∀ k, 1 ≤ k → k ≤ most → headB (of k) = true) :
    ∀ (n k : Nat), 1 ≤ k → k + n ≤ most + 1 → pickK ts of i k n = if kindL of t.text k n = 0 then none else some (kindL of t.text k n)
  | 0, k, _, _ => rfl
  | n + 1, k, h1, h2 => by
    unfold pickK kindL
    rw [isT_get h ht (hof k h1 (by omega)), pickK_kind h ht hof n (k + 1) (by omega) (by omega)]
    by_cases e : t.text = of k
    · have e1 : (t.text == of k) = true := by simp [e]
      have e2 : (of k == t.text) = true := by simp [e]
      rw [e1, e2]
      have : ¬ k = 0 := by omega
      simp [this]
    · have e1 : (t.text == of k) = false := by simp [e]
      have e2 : (of k == t.text) = false := by
        simp
        exact fun e' => e e'.symm
      rw [e1, e2]
      simp
theorem pickK_none {ts : List Tok} {i : Nat} {of : Nat → List UInt8} (ht : ts[i]? = none) : ∀ (n k : Nat), pickK ts of i k n = none
  | 0, _ => rfl
  | n + 1, k => by
    unfold pickK
    rw [isT_none ht, pickK_none ht n]
    rfl
theorem wrong_get {ts : List Tok} {fin i : Nat} {t : Tok} {code : Int} (ht : ts[i]? = some t) : wrongAt ts fin code i = (code, ((t.pos : Nat) : Int)) := by
  unfold wrongAt
  rw [ht]
theorem wrong_none {ts : List Tok} {fin i : Nat} (ht : ts[i]? = none) : wrongAt ts fin 5 i = (6, ((fin : Nat) : Int)) := by
  unfold wrongAt
  rw [ht]
  rfl
end E
end Go.Proofs.YthbkcadiejfgaacGreatDoor
