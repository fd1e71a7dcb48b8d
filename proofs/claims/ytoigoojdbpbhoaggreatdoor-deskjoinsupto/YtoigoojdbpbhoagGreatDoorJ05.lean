/- Texts PgF PgG PgH ParE PgI IrA IrB IrC IrD IrE IrF IrG DiskA DiskB DiskC. -/
import Derived.Test.YtoigoojdbpbhoagGreatDoorJ04
import Derived.Test.YtoigoojdbpbhoagGreatDoorJ03
import Derived.Test.YtoigoojdbpbhoagGreatDoorJ00
import Derived.Test.YtoigoojdbpbhoagGreatDoorJ02
namespace Go.Proofs.YtoigoojdbpbhoagGreatDoor
set_option maxRecDepth 20000
set_option maxHeartbeats 4000000
namespace E
section
open Go.Proofs
section
variable {w0 w w' : World} {lv vv : Value} {ts : List Tok} {fin b i : Nat} {vs : List VarT}
def StR (w w' : World) (r : Value) (t : ST) : Prop := ∃ (cs : List Value) (F : Nat → Prop), r = .agg cs.toArray ∧ StmtV F w' cs t ∧ ∀ c, F c → w.heap.size ≤ c ∧ c < w'.heap.size
def SsR (w w' : World) (r : Value) (l : List ST) : Prop := (∃ a n c, r = .slice a n c ∧ n ≤ c) ∧ ∃ F : Nat → Prop, StmtsV F w' r l ∧ ∀ c, F c → w.heap.size ≤ c ∧ c < w'.heap.size
theorem SsR.keep {w'' : World} {r : Value} {l : List ST} {fp : List Nat} (h : SsR w w' r l) (hk : Keep fp w' w'') (hfp : ∀ c ∈ fp, c < w.heap.size) : SsR w w'' r l := by
 obtain ⟨h1, F, h2, h3⟩ := h
 exact ⟨h1, F, h2.keep hk (fun c hc => ⟨(h3 c hc).2, fun hm => by have := hfp c hm; have := (h3 c hc).1; omega⟩), fun c hc => ⟨(h3 c hc).1, Nat.lt_of_lt_of_le (h3 c hc).2 hk.size⟩⟩
theorem SsR.mono {w'' : World} {r : Value} {l : List ST} (h : SsR w w' r l) (hl : w''.heap.size ≤ w.heap.size) : SsR w'' w' r l := by
 obtain ⟨h1, F, h2, h3⟩ := h
 exact ⟨h1, F, h2, fun c hc => ⟨Nat.le_trans hl (h3 c hc).1, (h3 c hc).2⟩⟩
theorem stmts_end {deep g bx : Nat} {one : Nat → Except Flt (ST × Nat)} {stop : Nat → Bool} (hct : Ct ts) (hg : callable Tryz.prog g = true) (hone : ∀ i r, one i = .ok r → i < r.2 ∧ r.2 ≤ ts.length)
  (hst : ∀ (i : Nat) {w : World}, Rd w0 lv ts fin b vv vs w i → Goes 219 [.pointer (some ⟨b, 0, none⟩), .int .i64 (deep : Nat)] w0 w (one i) fun q r w' => StR w w' r q.1 ∧ Rd w0 lv ts fin b vv vs w' q.2 ∧ Keep [b] w w')
  (hov : ∀ (i : Nat) {w : World}, Rd w0 lv ts fin b vv vs w i → Blk w bx [.pointer (some ⟨b, 0, none⟩)] 236 → Ret Tryz.prog g [.pointer (some ⟨bx, 0, none⟩)] w fun r w' => r = .bool (stop i) ∧ w' = w)
  {i : Nat} {w : World} (h : Rd w0 lv ts fin b vv vs w i) (hx : Blk w bx [.pointer (some ⟨b, 0, none⟩)] 236) :
  Goes 194 [.pointer (some ⟨b, 0, none⟩), .int .i64 (deep : Nat), .func (.func g) #[] #[.pointer (some ⟨bx, 0, none⟩)]] w0 w (untilP stop one (ts.length + 1 - i) i) fun q r w' => SsR w w' r q.1 ∧ Rd w0 lv ts fin b vv vs w' q.2 ∧ Keep [b] w w' := by
 have hlen := hct.len
 have hbw := h.lt
 have hxw := hx.lt
 have hle0 := h.le
 refine end_of 18 Tryz.func194 rfl rfl (by simp) ?_
 refine au ?_
 obtain ⟨TOT, hTOT⟩ : ∃ TOT, TOT = untilP stop one (ts.length + 1 - i) i := ⟨_, rfl⟩
 rw [← hTOT]
 obtain ⟨B, hB⟩ : ∃ B, B = w.heap.size := ⟨_, rfl⟩
 have hw0B : w0.heap.size ≤ B := by have := h.kp.size; omega
 have hne : bx ≠ b := by
  obtain ⟨a0, c0, hb0, _⟩ := h.blk
  exact hx.ne hb0 (by decide)
 refine rn_ind (fun m σ w' => ∃ (j : Nat) (l : List ST) (sl : Value), m = ts.length + 1 - j ∧ σ = [(0, .pointer (some ⟨b, 0, none⟩)), (1, .int .i64 (deep : Nat)), (2, .func (.func g) #[] #[.pointer (some ⟨bx, 0, none⟩)]), (7, sl)] ∧
  TOT = bnd (untilP stop one (ts.length + 1 - j) j) (fun (r, k) => .ok (l ++ r, k)) ∧ l.length ≤ j ∧ RowS w' B sl l ∧ Rd w0 lv ts fin b vv vs w' j ∧ Blk w' bx [.pointer (some ⟨b, 0, none⟩)] 236 ∧ Keep [b] w w')
  _ _ ?_ ⟨i, [], .slice none 0 0, rfl, rfl, ?_, Nat.zero_le _, RowS.nil _ _, h, hx, Keep.refl _ _⟩ ?_
 ·exact ⟨rfl, rfl, rfl, rfl, trivial⟩
 ·rw [hTOT]
  cases untilP stop one (ts.length + 1 - i) i <;> rfl
 rintro m σ w2 ih ⟨j, l, sl, rfl, rfl, hT2, hlj, hrow, h2, hx2, hk2⟩
 have hjl := h2.le
 refine au ?_
 refine pl_op rfl rfl (opTo_call (fst := []) (cap := [.pointer (some ⟨bx, 0, none⟩)]) rfl rfl rfl rfl hg ((hov j h2 hx2).mono ?_))
 rintro r w3 ⟨rfl, rfl⟩
 have hu : untilP stop one (ts.length + 1 - j) j = if stop j then .ok ([], j) else bnd (one j) fun (t, k) => bnd (untilP stop one (ts.length - j) k) fun (r, k) => .ok (t :: r, k) := by
  have e : ts.length + 1 - j = (ts.length - j) + 1 := by omega
  rw [e]
  rfl
 obtain ⟨q, hq⟩ : ∃ q, q = stop j := ⟨_, rfl⟩
 rw [← hq] at hu ⊢
 cases q with
 | true =>
  rw [if_pos rfl] at hu
  refine au ?_
  refine rn_ret Tryz.func194 (.inl ⟨_, rfl, rfl⟩) ⟨(l, j), ?_, ⟨?_, ?_⟩, h2, hk2⟩
  ·rw [hT2, hu]
   show Except.ok (l ++ [], j) = _
   rw [List.append_nil]
  ·obtain ⟨xs, ho⟩ := hrow.own
   obtain ⟨a, cap, rfl⟩ := ho.form
   exact ⟨a, _, cap, rfl, own_cap ho⟩
  ·obtain ⟨F, h1, h3⟩ := hrow.stmts
   exact ⟨F, h1, fun c hc => by have := h3 c hc; omega⟩
 | false =>
  rw [if_neg (by decide)] at hu
  have hT3 : TOT = bnd (one j) fun q => bnd (untilP stop one (ts.length + 1 - q.2) q.2) (fun (r, k) => .ok ((l ++ [q.1]) ++ r, k)) := by
   rw [hT2, hu]
   cases hc : one j with
   | error e => rfl
   | ok q =>
    obtain ⟨t, j'⟩ := q
    have h1 := hone _ _ hc
    dsimp only at h1
    show bnd (bnd (untilP stop one (ts.length - j) j') _) _ = bnd (untilP stop one (ts.length + 1 - j') j') _
    rw [untilP_fuel hone (ts.length - j) (ts.length + 1 - j') j' h1.2 (by omega) (by omega)]
    cases untilP stop one (ts.length + 1 - j') j' with
    | error e => rfl
    | ok q =>
     obtain ⟨r', k'⟩ := q
     show Except.ok (l ++ t :: r', k') = Except.ok (l ++ [t] ++ r', k')
     rw [List.append_assoc]
     rfl
  refine au ?_
  refine pl_opE Tryz.func194 rfl rfl (opE_call (fst := []) (cap := []) rfl rfl rfl rfl (by decide +kernel) (End.mono (hst j h2) ?_ ?_))
  rotate_left
  ·rintro v w5 ⟨e, hX, r⟩
   exact ⟨e, by rw [hT3, hX]; rfl, r⟩
  rintro r w5 ⟨⟨t, j'⟩, hX, ⟨cs, F', rfl, he2, he3⟩, h5, hk5⟩
  have hj' := hone _ _ hX
  dsimp only at hj' he2
  rw [hX] at hT3
  have hT4 : TOT = bnd (untilP stop one (ts.length + 1 - j') j') (fun (r, k) => .ok ((l ++ [t]) ++ r, k)) := hT3
  have hrow5 := hrow.keep hk5 (by simp; omega)
  have hk05 := hk2.tr hk5
  have hx5 := hk5.blk hx2 (by simp; exact hne)
  have hcs1 := he2.one
  obtain ⟨c0, c1, c2, c3, c4, c5, c6, c7, c8, c9, c10, c11, rfl⟩ := list12 he2.length
  refine pl_op rfl rfl (opTo_sliceN _ _ rfl rfl (slice_stmt c0 c1 c2 c3 c4 c5 c6 c7 c8 c9 c10 c11) ?_)
  intro w6 g6 hg6 hs6 hk6 hb6
  have h6 := h5.keep0 hk6
  have hx6 := hk6.blk hx5 (by simp)
  have hrow6 := hrow5.keep hk6 (by simp)
  have hk06 := hk05.tr0 hk6
  obtain ⟨xs, hown6⟩ := hrow6.own
  have hB6 : B ≤ w6.heap.size := by have := hk06.size; omega
  refine pl_op rfl rfl (opTo_app B 143 12 160 xs [c0, c1, c2, c3, c4, c5, c6, c7, c8, c9, c10, c11] rfl rfl rfl (by decide +kernel) hown6 (hb6.range (by rfl)) rfl hcs1 (by decide) (by simp only [maxLen]; omega) (by omega) hB6 ?_)
  intro g7 cap7 w7 hown7 hor7
  have hk07 : Keep [b] w w7 := by
   rcases hor7 with ⟨h1, _, h2⟩ | ⟨_, h2, _⟩
   ·exact hk06.trB h2 (by have := (hown6.lt g7 h1).1; omega)
   ·exact hk06.tr0 h2
  have h7 := h6.app hown6 hw0B (by decide) hor7
  have hx7 := app_blk hx6 (fun k hk e => by have := (hown6.lt k hk).1; omega) hor7
  have hrow7 : RowS w7 B (.slice (some ⟨g7, 0, none⟩) (l.length + 1) cap7) (l ++ [t]) := by
   refine hrow6.app (he2.keep hk6 (fun c hc' => ⟨(he3 c hc').2, by simp⟩)) (fun c hc' => ?_) (fun ys hys => ?_) hor7
   ·have h3 := he3 c hc'
    have := hk2.size
    refine ⟨by omega, by have := hk6.size; omega, fun e' => ?_⟩
    obtain ⟨zs, hz⟩ := hrow.own
    have := (hz.lt c e').2
    omega
   ·have : ys = xs := hys.eq hown6
    subst this
    exact hown7
  refine au ?_
  refine rn_sub ?_ (ih _ _ _ ?_ ⟨j', l ++ [t], .slice (some ⟨g7, 0, none⟩) (l.length + 1) cap7, rfl, rfl, hT4, by simp; omega, hrow7, h7, hx7, hk07⟩)
  ·exact ⟨rfl, rfl, rfl, rfl, trivial⟩
  ·omega
theorem atBracket_ret (hct : Ct ts) {bx : Nat} (h : Rd w0 lv ts fin b vv vs w i) (hx : Blk w bx [.pointer (some ⟨b, 0, none⟩)] 236) : Ret Tryz.prog 271 [.pointer (some ⟨bx, 0, none⟩)] w fun r w' => r = .bool (isT ts i [41]) ∧ w' = w := by
 refine ret_of 4 Tryz.func271 rfl rfl (by simp) ?_
 refine lB hx ?_
 refine oC (stands_ret hct h [41] (by decide)) ?_
 rintro r w2 ⟨rfl, rfl⟩
 refine au ?_
 exact rn_ret Tryz.func271 (.inl ⟨_, rfl, rfl⟩) ⟨rfl, rfl⟩
theorem atEnd_ret {bx : Nat} (h : Rd w0 lv ts fin b vv vs w i) (hx : Blk w bx [.pointer (some ⟨b, 0, none⟩)] 236) : Ret Tryz.prog 195 [.pointer (some ⟨bx, 0, none⟩)] w fun r w' => r = .bool (decide (ts.length ≤ i)) ∧ w' = w := by
 obtain ⟨a, c, hb, _⟩ := h.blk
 have hle := h.le
 refine ret_of 8 Tryz.func195 rfl rfl (by simp) ?_
 refine lB hx ?_
 refine lB hb ?_
 refine au ?_
 by_cases he : ts.length ≤ i
 ·refine ye ?_
  refine au ?_
  exact rn_ret Tryz.func195 (.inl ⟨_, rfl, rfl⟩) ⟨by simp [he], rfl⟩
 ·refine nay ?_
  refine au ?_
  exact rn_ret Tryz.func195 (.inl ⟨_, rfl, rfl⟩) ⟨by simp [he], rfl⟩
theorem list_end {deep : Nat} {one : Nat → Except Flt (ST × Nat)} (hct : Ct ts) (hone : ∀ i r, one i = .ok r → i < r.2 ∧ r.2 ≤ ts.length)
  (hst : ∀ (i : Nat) {w : World}, Rd w0 lv ts fin b vv vs w i → Goes 219 [.pointer (some ⟨b, 0, none⟩), .int .i64 (deep : Nat)] w0 w (one i) fun q r w' => StR w w' r q.1 ∧ Rd w0 lv ts fin b vv vs w' q.2 ∧ Keep [b] w w')
  (h : Rd w0 lv ts fin b vv vs w i) :
  Goes 255 [.pointer (some ⟨b, 0, none⟩), .int .i64 (deep : Nat)] w0 w (listP ts fin one i) fun q r w' => SsR w w' r q.1 ∧ Rd w0 lv ts fin b vv vs w' q.2 ∧ Keep [b] w w' := by
 have hbw := h.lt
 refine end_of 15 Tryz.func255 rfl rfl (by simp) ?_
 refine au ?_
 refine pl_op rfl rfl (opTo_boxN [.pointer (some ⟨b, 0, none⟩)] rfl rfl rfl ?_)
 intro w1 bx hbx hs1 hk1 hz1
 have h1 := h.keep0 hk1
 refine lB hz1 ?_
 obtain ⟨TOT, hTOT⟩ : ∃ TOT, TOT = listP ts fin one i := ⟨_, rfl⟩
 rw [← hTOT]
 unfold listP at hTOT
 refine pl_opE Tryz.func255 rfl rfl (opE_call (fst := []) (cap := []) rfl rfl rfl rfl (by decide +kernel) (End.mono (text_end hct h1 [40] (by decide)) ?_ ?_))
 rotate_left
 ·rintro v w5 ⟨e, hX, r⟩
  exact ⟨e, by rw [hTOT, hX]; rfl, r⟩
 rintro r w2 ⟨j, hX, h2, hk2⟩
 rw [hX] at hTOT
 have hT2 : TOT = bnd (untilP (fun j => isT ts j [41]) one (ts.length + 1 - j) j) fun (l, k) => bnd (mustP ts fin [41] k) fun m => .ok (l, m) := hTOT
 have hz2 := hk2.blk hz1 (by simp; omega)
 refine lB hz2 ?_
 refine au ?_
 refine pl_opE Tryz.func255 rfl rfl (opE_call (fst := []) (cap := []) rfl rfl rfl rfl (by decide +kernel) (End.mono (stmts_end (stop := fun j => isT ts j [41]) (g := 271) (bx := bx) hct (by decide +kernel) hone hst (fun i w h hx => atBracket_ret hct h hx) h2 hz2) ?_ ?_))
 rotate_left
 ·rintro v w5 ⟨e, hX, r⟩
  exact ⟨e, by rw [hT2, hX]; rfl, r⟩
 rintro r w3 ⟨⟨l, k⟩, hX, hL, h3, hk3⟩
 rw [hX] at hT2
 have hT3 : TOT = bnd (mustP ts fin [41] k) fun m => .ok (l, m) := hT2
 have hz3 := hk3.blk hz2 (by simp; omega)
 refine lB hz3 ?_
 refine pl_opE Tryz.func255 rfl rfl (opE_call (fst := []) (cap := []) rfl rfl rfl rfl (by decide +kernel) (End.mono (text_end hct h3 [41] (by decide)) ?_ ?_))
 rotate_left
 ·rintro v w5 ⟨e, hX, r⟩
  exact ⟨e, by rw [hT3, hX]; rfl, r⟩
 rintro r w4 ⟨m, hX, h4, hk4⟩
 rw [hX] at hT3
 refine au ?_
 have s1 := hk1.size
 have s2 := hk2.size
 refine rn_ret Tryz.func255 (.inl ⟨_, rfl, rfl⟩) ⟨(l, m), hT3, (hL.keep hk4 (by simp; omega)).mono (by omega), h4, (((Keep.of0 hk1).tr hk2).tr hk3).tr hk4⟩
structure Sx (w0 : World) (lv : Value) (ts : List Tok) (fin b : Nat) (vv : Value) (vs : List VarT) (w : World) (B b4 b5 kk v : Nat) (e g : ET) (lb lo : List ST) (ce cf : List Value) (bv ov : Value) (w' : World) (i : Nat) : Prop where
 rd : Rd w0 lv ts fin b vv vs w' i
 z : Blk w' b5 (scells (kk : Nat) (v : Nat) ce cf bv ov) 143
 gd : Gd w' B e g lb lo ce cf bv ov
 fm : Fm ce cf bv ov
 y : Blk w' b4 zst 143
 kp : Keep [b] w w'
 sz : B ≤ w'.heap.size
structure La (w0 w : World) (b b4 b5 B : Nat) : Prop where
 h1 : b < w.heap.size
 h2 : w.heap.size ≤ b4
 h3 : b4 < b5
 h4 : b5 < B
 h5 : w0.heap.size ≤ w.heap.size
section
variable {B b4 b5 kk v v' j : Nat} {e g e' g' : ET} {lb lo lb' lo' : List ST} {ce cf ce' cf' : List Value} {bv ov bv' ov' : Value} {w'' : World}
theorem Sx.call (h : Sx w0 lv ts fin b vv vs w B b4 b5 kk v e g lb lo ce cf bv ov w' i) (la : La w0 w b b4 b5 B) (hr : Rd w0 lv ts fin b vv vs w'' j) (hk : Keep [b] w' w'') : Sx w0 lv ts fin b vv vs w B b4 b5 kk v e g lb lo ce cf bv ov w'' j := by
 obtain ⟨l1, l2, l3, l4, l5⟩ := la
 exact ⟨hr, hk.blk h.z (by simp; omega), h.gd.keep hk (by simp; omega), h.fm, hk.blk h.y (by simp; omega), h.kp.tr hk, Nat.le_trans h.sz hk.size⟩
theorem Sx.store (h : Sx w0 lv ts fin b vv vs w B b4 b5 kk v e g lb lo ce cf bv ov w' i) (la : La w0 w b b4 b5 B) (hk : Keep [b5] w' w'') (hz : Blk w'' b5 (scells (kk : Nat) (v' : Nat) ce' cf' bv' ov') 143) (hg : Gd w' B e' g' lb' lo' ce' cf' bv' ov') (hf : Fm ce' cf' bv' ov') :
  Sx w0 lv ts fin b vv vs w B b4 b5 kk v' e' g' lb' lo' ce' cf' bv' ov' w'' i := by
 obtain ⟨l1, l2, l3, l4, l5⟩ := la
 exact ⟨h.rd.put h.z (by omega) hk (by decide), hz, hg.keep hk (by simp; omega), hf, hk.blk h.y (by simp; omega), h.kp.trB hk (by omega), Nat.le_trans h.sz hk.size⟩
end
theorem XpR.cells {r : Value} {t : ET} (h : XpR w w' r t) : ∃ cs : List Value, r = .agg cs.toArray ∧ cs.length = 4 ∧ (∀ u ∈ cs, u.oneCell' = true) ∧ ∃ F : Nat → Prop, ExprV F w' cs t ∧ ∀ c, F c → w.heap.size ≤ c ∧ c < w'.heap.size := by
 obtain ⟨cs, F, h1, h2, h3⟩ := h
 exact ⟨cs, h1, h2.length, h2.one, F, h2, h3⟩
theorem stmt_end (hct : Ct ts) (hw0 : Lw w0) (hvl : vs.length ≤ 100000) : ∀ (f deep i : Nat) {w : World}, deep + f = 13 → Rd w0 lv ts fin b vv vs w i →
  Goes 219 [.pointer (some ⟨b, 0, none⟩), .int .i64 (deep : Nat)] w0 w (stmtP ts fin vs f i) fun q r w' => StR w w' r q.1 ∧ Rd w0 lv ts fin b vv vs w' q.2 ∧ Keep [b] w w' := by
 intro f
 induction f using Nat.strongRecOn with
 | _ f ih =>
 intro deep i w hdf h
 have hbw := h.lt
 refine end_of 55 Tryz.func219 rfl rfl (by simp) ?_
 refine au ?_
 refine pl_op rfl rfl (opTo_allocN _ rfl zero_st ?_)
 intro w1 b4 hb40 hs1 hk1 hz1
 have h1 := h.keep0 hk1
 refine au ?_
 obtain ⟨ex, hex⟩ : ∃ ex, ex = exprP ts fin vs (f - 1) := ⟨_, rfl⟩
 obtain ⟨one, hone⟩ : ∃ one, one = stmtP ts fin vs (f - 1) := ⟨_, rfl⟩
 rw [stmtP_eq ts fin vs hdf i, ← hone, ← hex]
 obtain ⟨TOT, hTOT⟩ : ∃ TOT, TOT = bnd (bnd (if 12 < deep then .error (wrongAt ts fin 4 i) else .ok i) (beginP ts fin verbT 7)) (fun (k, i1) => st1 ts fin vs ex one k i1) := ⟨_, rfl⟩
 rw [← hTOT]
 refine pl_opE Tryz.func219 rfl rfl (opE_call (fst := []) (cap := []) rfl rfl rfl rfl (by decide +kernel) (End.mono (begin_end hct hw0 h1 wr_verb deep) ?_ ?_))
 rotate_left
 ·rintro v w2 ⟨e, hX, r⟩
  exact ⟨e, by rw [hTOT, hX]; rfl, r⟩
 rintro r w2 ⟨⟨kk, i1⟩, hX1, rfl, h2, hk2⟩
 rw [hX1] at hTOT
 have hT1 : TOT = st1 ts fin vs ex one kk i1 := hTOT
 have hd : ¬ 12 < deep := by
  intro hd
  rw [if_pos hd] at hX1
  cases hX1
 have hz2 := hk2.blk hz1 (by simp; omega)
 have hk02 : Keep [b] w w2 := (Keep.of0 hk1).tr hk2
 have hw2 : w1.heap.size ≤ w2.heap.size := hk2.size
 refine pl_val _ rfl rfl (val_build _ rfl rfl (built_st (kk : Nat)) w2) ?_
 refine pl_op rfl rfl (opTo_allocN _ rfl zero_st ?_)
 intro w3 b5 hb50 hs3 hk3 hz3
 refine pl_op rfl rfl (opTo_storeN (scells (kk : Nat) 0 zx zx (.slice none 0 0) (.slice none 0 0)) rfl rfl rfl rfl size_st hz3 (by rw [scells_len Fm.zero]; simp [zst, scells_len Fm.zero]) (scells_one Fm.zero) ?_)
 intro w4 hs4 hk4 hz4
 rw [splice_whole (by rfl)] at hz4
 have hk24 : Keep [] w2 w4 := hk3.trB hk4 (by omega)
 have hk04 : Keep [b] w w4 := hk02.tr0 hk24
 obtain ⟨B, hB⟩ : ∃ B, B = w4.heap.size := ⟨_, rfl⟩
 have la : La w0 w b b4 b5 B := ⟨hbw, by omega, by omega, by have := hz4.lt; omega, h.kp.size⟩
 have s4 : Sx w0 lv ts fin b vv vs w B b4 b5 kk 0 zeroT zeroT [] [] zx zx (.slice none 0 0) (.slice none 0 0) w4 i1 :=
  ⟨h2.keep0 hk24, hz4, Gd.zero, Fm.zero, hk24.blk hz2 (by simp), hk04, by omega⟩
 refine lB s4.z ?_
 refine oC (has_ret ((kk : Nat) : Int) w4) ?_
 rintro r w4' ⟨rfl, rfl⟩
 unfold hasV
 refine auj ?_
 refine rn_seq ?_
 refine rn_with (fun σ' w' => ∃ v i2 : Nat, TOT = st2 ts fin ex one kk v i2 ∧ Sx w0 lv ts fin b vv vs w B b4 b5 kk v zeroT zeroT [] [] zx zx (.slice none 0 0) (.slice none 0 0) w' i2 ∧ Sub [(0, .pointer (some ⟨b, 0, none⟩)), (1, .int .i64 (deep : Nat)), (4, .pointer (some ⟨b4, 0, none⟩)), (5, .pointer (some ⟨b5, 0, none⟩)), (6, .bool (needE (kk : Nat))), (7, .bool (needF (kk : Nat))), (9, .bool (needB (kk : Nat))), (10, .bool (needO (kk : Nat)))] σ') ?_ ?_
 rotate_left
 ·intro fin1
  refine rn_seq ?_
  refine rn_plain ?_
  obtain ⟨q, hq⟩ : ∃ q, q = needV ((kk : Nat) : Int) := ⟨_, rfl⟩
  rw [← hq]
  unfold st1 at hT1
  rw [← hq] at hT1
  cases q with
  | true =>
   have hT2 : TOT = bnd (varP ts fin vs i1) fun (v, i2) => st2 ts fin ex one kk v i2 := hT1
   refine auj ?_
   refine rn_plain ?_
   refine auj ?_
   refine pl_opE Tryz.func219 rfl rfl (opE_call (fst := []) (cap := []) rfl rfl rfl rfl (by decide +kernel) (End.mono (variable_end s4.rd hvl) ?_ ?_))
   rotate_left
   ·rintro x w6 ⟨e0, hX, r⟩
    exact ⟨e0, by rw [hT2, hX]; rfl, r⟩
   rintro r w5 ⟨⟨v, j⟩, hX, rfl, h5, hk5⟩
   rw [hX] at hT2
   have s5 := s4.call la h5 hk5
   refine auj ?_
   refine pl_op rfl rfl (opTo_storeN [.int .i64 ((v : Nat) : Int)] rfl rfl rfl rfl size_int s5.z (by rw [scells_len Fm.zero]; simp) (by simp; rfl) ?_)
   intro w6 hs6 hk6 hz6
   rw [sp_v] at hz6
   refine auj ?_
   exact fin1 _ _ ⟨v, j, hT2, s5.store la hk6 hz6 s5.gd s5.fm, rfl, rfl, rfl, rfl, rfl, rfl, rfl, rfl, trivial⟩
  | false =>
   refine auj ?_
   exact fin1 _ _ ⟨0, i1, hT1, s4, rfl, rfl, rfl, rfl, rfl, rfl, rfl, rfl, trivial⟩
 rintro σ' w5 ⟨v, i, hTT, s5, hsub⟩
 refine rn_sub hsub ?_
 clear hsub
 refine rn_seq ?_
 refine rn_with (fun σ' w' => ∃ (v : Nat) (e : ET) (ce : List Value) (k : Nat), TOT = st3 ts fin ex one kk v e k ∧ Sx w0 lv ts fin b vv vs w B b4 b5 kk v e zeroT [] [] ce zx (.slice none 0 0) (.slice none 0 0) w' k ∧ Sub [(0, .pointer (some ⟨b, 0, none⟩)), (1, .int .i64 (deep : Nat)), (4, .pointer (some ⟨b4, 0, none⟩)), (5, .pointer (some ⟨b5, 0, none⟩)), (7, .bool (needF (kk : Nat))), (9, .bool (needB (kk : Nat))), (10, .bool (needO (kk : Nat)))] σ') ?_ ?_
 rotate_left
 ·intro fin1
  refine rn_seq ?_
  refine rn_plain ?_
  obtain ⟨q, hq⟩ : ∃ q, q = needE ((kk : Nat) : Int) := ⟨_, rfl⟩
  rw [← hq]
  unfold st2 at hTT
  rw [← hq] at hTT
  cases q with
  | true =>
   have hT2 : TOT = bnd (ex i) fun (t, k) => st3 ts fin ex one kk v t k := hTT
   refine auj ?_
   refine rn_plain ?_
   refine auj ?_
   refine nM ((deep + 1 : Nat) : Int) ?_
   refine pl_opE Tryz.func219 rfl rfl (opE_call (fst := []) (cap := []) rfl rfl rfl rfl (by decide +kernel) (End.mono (expr_end hct hw0 hvl (f - 1) (deep + 1) i (by omega) s5.rd) ?_ ?_))
   rotate_left
   ·rintro x w6 ⟨e0, hX, r⟩
    rw [← hex] at hX
    exact ⟨e0, by rw [hT2, hX]; rfl, r⟩
   rintro r w6 ⟨⟨t, j⟩, hX, hE, h6, hk6⟩
   rw [← hex] at hX
   rw [hX] at hT2
   obtain ⟨cs, rfl, hcs4, hcs1, F', he2, he3⟩ := hE.cells
   have s6 := s5.call la h6 hk6
   refine auj ?_
   refine pl_op rfl rfl (opTo_storeN cs rfl rfl rfl rfl (by rw [hcs4]; exact size_expr) s6.z (by rw [scells_len s6.fm, hcs4]; decide) hcs1 ?_)
   intro w7 hs7 hk7 hz7
   have hz7' := hz7
   rw [show splice _ _ cs = _ from sp_e (op := ((kk : Nat) : Int)) (v := ((v : Nat) : Int)) s6.fm hcs4] at hz7'
   refine auj ?_
   refine fin1 _ _ ⟨v, t, cs, j, hT2, s6.store la hk7 hz7' ?_ ⟨hcs4, s6.fm.lf, hcs1, s6.fm.of, s6.fm.bv, s6.fm.ov⟩, rfl, rfl, rfl, rfl, rfl, rfl, rfl, trivial⟩
   obtain ⟨F, hF, h1, h2, h3, h4⟩ := s6.gd
   refine ⟨fun c => F c ∨ F' c, ?_, he2.mono fun c h => .inr h, h2.mono fun c h => .inl h, h3.mono fun c h => .inl h, h4.mono fun c h => .inl h⟩
   rintro c (h | h)
   ·exact hF c h
   ·have := he3 c h
    have := s5.sz
    exact ⟨by omega, (he3 c h).2⟩
  | false =>
   refine auj ?_
   exact fin1 _ _ ⟨v, zeroT, zx, i, hTT, s5, rfl, rfl, rfl, rfl, rfl, rfl, rfl, trivial⟩
 rintro σ' w5 ⟨v, e, ce, i, hTT, s5, hsub⟩
 refine rn_sub hsub ?_
 clear hsub
 refine rn_seq ?_
 refine rn_with (fun σ' w' => ∃ (v : Nat) (e g : ET) (ce cf : List Value) (k : Nat), TOT = st4 ts fin one kk v e g k ∧ Sx w0 lv ts fin b vv vs w B b4 b5 kk v e g [] [] ce cf (.slice none 0 0) (.slice none 0 0) w' k ∧ Sub [(0, .pointer (some ⟨b, 0, none⟩)), (1, .int .i64 (deep : Nat)), (4, .pointer (some ⟨b4, 0, none⟩)), (5, .pointer (some ⟨b5, 0, none⟩)), (9, .bool (needB (kk : Nat))), (10, .bool (needO (kk : Nat)))] σ') ?_ ?_
 rotate_left
 ·intro fin1
  refine rn_seq ?_
  refine rn_plain ?_
  obtain ⟨q, hq⟩ : ∃ q, q = needF ((kk : Nat) : Int) := ⟨_, rfl⟩
  rw [← hq]
  unfold st3 at hTT
  rw [← hq] at hTT
  cases q with
  | true =>
   have hT2 : TOT = bnd (ex i) fun (t, k) => st4 ts fin one kk v e t k := hTT
   refine auj ?_
   refine rn_plain ?_
   refine auj ?_
   refine nM ((deep + 1 : Nat) : Int) ?_
   refine pl_opE Tryz.func219 rfl rfl (opE_call (fst := []) (cap := []) rfl rfl rfl rfl (by decide +kernel) (End.mono (expr_end hct hw0 hvl (f - 1) (deep + 1) i (by omega) s5.rd) ?_ ?_))
   rotate_left
   ·rintro x w6 ⟨e0, hX, r⟩
    rw [← hex] at hX
    exact ⟨e0, by rw [hT2, hX]; rfl, r⟩
   rintro r w6 ⟨⟨t, j⟩, hX, hE, h6, hk6⟩
   rw [← hex] at hX
   rw [hX] at hT2
   obtain ⟨cs, rfl, hcs4, hcs1, F', he2, he3⟩ := hE.cells
   have s6 := s5.call la h6 hk6
   refine auj ?_
   refine pl_op rfl rfl (opTo_storeN cs rfl rfl rfl rfl (by rw [hcs4]; exact size_expr) s6.z (by rw [scells_len s6.fm, hcs4]; decide) hcs1 ?_)
   intro w7 hs7 hk7 hz7
   have hz7' := hz7
   rw [show splice _ _ cs = _ from sp_f (op := ((kk : Nat) : Int)) (v := ((v : Nat) : Int)) s6.fm hcs4] at hz7'
   refine auj ?_
   refine fin1 _ _ ⟨v, e, t, ce, cs, j, hT2, s6.store la hk7 hz7' ?_ ⟨s6.fm.le, hcs4, s6.fm.oe, hcs1, s6.fm.bv, s6.fm.ov⟩, rfl, rfl, rfl, rfl, rfl, rfl, trivial⟩
   obtain ⟨F, hF, h1, h2, h3, h4⟩ := s6.gd
   refine ⟨fun c => F c ∨ F' c, ?_, h1.mono fun c h => .inl h, he2.mono fun c h => .inr h, h3.mono fun c h => .inl h, h4.mono fun c h => .inl h⟩
   rintro c (h | h)
   ·exact hF c h
   ·have := he3 c h
    have := s5.sz
    exact ⟨by omega, (he3 c h).2⟩
  | false =>
   refine auj ?_
   exact fin1 _ _ ⟨v, e, zeroT, ce, zx, i, hTT, s5, rfl, rfl, rfl, rfl, rfl, rfl, trivial⟩
 rintro σ' w5 ⟨v, e, g, ce, cf, i, hTT, s5, hsub⟩
 refine rn_sub hsub ?_
 clear hsub
 refine rn_seq ?_
 refine rn_with (fun σ' w' => ∃ (v : Nat) (e g : ET) (lb : List ST) (ce cf : List Value) (bv : Value) (k : Nat), TOT = st5 ts fin one kk v e g lb k ∧ Sx w0 lv ts fin b vv vs w B b4 b5 kk v e g lb [] ce cf bv (.slice none 0 0) w' k ∧ Sub [(0, .pointer (some ⟨b, 0, none⟩)), (1, .int .i64 (deep : Nat)), (4, .pointer (some ⟨b4, 0, none⟩)), (5, .pointer (some ⟨b5, 0, none⟩)), (10, .bool (needO (kk : Nat)))] σ') ?_ ?_
 rotate_left
 ·intro fin1
  refine rn_seq ?_
  refine rn_plain ?_
  obtain ⟨q, hq⟩ : ∃ q, q = needB ((kk : Nat) : Int) := ⟨_, rfl⟩
  rw [← hq]
  unfold st4 at hTT
  rw [← hq] at hTT
  cases q with
  | true =>
   have hT2 : TOT = bnd (listP ts fin one i) fun (t, k) => st5 ts fin one kk v e g t k := hTT
   refine auj ?_
   refine rn_plain ?_
   refine auj ?_
   refine nM ((deep + 1 : Nat) : Int) ?_
   refine pl_opE Tryz.func219 rfl rfl (opE_call (fst := []) (cap := []) rfl rfl rfl rfl (by decide +kernel) (End.mono (list_end (one := stmtP ts fin vs (f - 1)) (deep := deep + 1) hct (stmtP_ok vs (f - 1)) (fun i w h => ih (f - 1) (by omega) (deep + 1) i (by omega) h) s5.rd) ?_ ?_))
   rotate_left
   ·rintro x w6 ⟨e0, hX, r⟩
    rw [← hone] at hX
    exact ⟨e0, by rw [hT2, hX]; rfl, r⟩
   rintro r w6 ⟨⟨t, j⟩, hX, hL, h6, hk6⟩
   rw [← hone] at hX
   rw [hX] at hT2
   obtain ⟨⟨a, n, c, rfl, _⟩, F', he2, he3⟩ := hL
   have s6 := s5.call la h6 hk6
   refine auj ?_
   refine pl_op rfl rfl (opTo_storeN [.slice a n c] rfl rfl rfl rfl size_sts s6.z (by rw [scells_len s6.fm]; simp) (by simp; rfl) ?_)
   intro w7 hs7 hk7 hz7
   have hz7' := hz7
   rw [show splice _ _ [.slice a n c] = _ from sp_b (op := ((kk : Nat) : Int)) (v := ((v : Nat) : Int)) s6.fm (.slice a n c)] at hz7'
   refine auj ?_
   refine fin1 _ _ ⟨v, e, g, t, ce, cf, .slice a n c, j, hT2, s6.store la hk7 hz7' ?_ ⟨s6.fm.le, s6.fm.lf, s6.fm.oe, s6.fm.of, rfl, s6.fm.ov⟩, rfl, rfl, rfl, rfl, rfl, trivial⟩
   obtain ⟨F, hF, h1, h2, h3, h4⟩ := s6.gd
   refine ⟨fun c => F c ∨ F' c, ?_, h1.mono fun c h => .inl h, h2.mono fun c h => .inl h, he2.mono fun c h => .inr h, h4.mono fun c h => .inl h⟩
   rintro c (h | h)
   ·exact hF c h
   ·have := he3 c h
    have := s5.sz
    exact ⟨by omega, (he3 c h).2⟩
  | false =>
   refine auj ?_
   exact fin1 _ _ ⟨v, e, g, [], ce, cf, (.slice none 0 0), i, hTT, s5, rfl, rfl, rfl, rfl, rfl, trivial⟩
 rintro σ' w5 ⟨v, e, g, lb, ce, cf, bv, i, hTT, s5, hsub⟩
 refine rn_sub hsub ?_
 clear hsub
 refine rn_seq ?_
 refine rn_with (fun σ' w' => ∃ (v : Nat) (e g : ET) (lb lo : List ST) (ce cf : List Value) (bv ov : Value) (k : Nat), TOT = st6 ts fin kk v e g lb lo k ∧ Sx w0 lv ts fin b vv vs w B b4 b5 kk v e g lb lo ce cf bv ov w' k ∧ Sub [(0, .pointer (some ⟨b, 0, none⟩)), (1, .int .i64 (deep : Nat)), (4, .pointer (some ⟨b4, 0, none⟩)), (5, .pointer (some ⟨b5, 0, none⟩))] σ') ?_ ?_
 rotate_left
 ·intro fin1
  refine rn_seq ?_
  refine rn_plain ?_
  obtain ⟨q, hq⟩ : ∃ q, q = needO ((kk : Nat) : Int) := ⟨_, rfl⟩
  rw [← hq]
  unfold st5 at hTT
  rw [← hq] at hTT
  cases q with
  | true =>
   have hT2 : TOT = bnd (listP ts fin one i) fun (t, k) => st6 ts fin kk v e g lb t k := hTT
   refine auj ?_
   refine rn_plain ?_
   refine auj ?_
   refine nM ((deep + 1 : Nat) : Int) ?_
   refine pl_opE Tryz.func219 rfl rfl (opE_call (fst := []) (cap := []) rfl rfl rfl rfl (by decide +kernel) (End.mono (list_end (one := stmtP ts fin vs (f - 1)) (deep := deep + 1) hct (stmtP_ok vs (f - 1)) (fun i w h => ih (f - 1) (by omega) (deep + 1) i (by omega) h) s5.rd) ?_ ?_))
   rotate_left
   ·rintro x w6 ⟨e0, hX, r⟩
    rw [← hone] at hX
    exact ⟨e0, by rw [hT2, hX]; rfl, r⟩
   rintro r w6 ⟨⟨t, j⟩, hX, hL, h6, hk6⟩
   rw [← hone] at hX
   rw [hX] at hT2
   obtain ⟨⟨a, n, c, rfl, _⟩, F', he2, he3⟩ := hL
   have s6 := s5.call la h6 hk6
   refine auj ?_
   refine pl_op rfl rfl (opTo_storeN [.slice a n c] rfl rfl rfl rfl size_sts s6.z (by rw [scells_len s6.fm]; simp) (by simp; rfl) ?_)
   intro w7 hs7 hk7 hz7
   have hz7' := hz7
   rw [show splice _ _ [.slice a n c] = _ from sp_o (op := ((kk : Nat) : Int)) (v := ((v : Nat) : Int)) s6.fm (.slice a n c)] at hz7'
   refine auj ?_
   refine fin1 _ _ ⟨v, e, g, lb, t, ce, cf, bv, .slice a n c, j, hT2, s6.store la hk7 hz7' ?_ ⟨s6.fm.le, s6.fm.lf, s6.fm.oe, s6.fm.of, s6.fm.bv, rfl⟩, rfl, rfl, rfl, rfl, trivial⟩
   obtain ⟨F, hF, h1, h2, h3, h4⟩ := s6.gd
   refine ⟨fun c => F c ∨ F' c, ?_, h1.mono fun c h => .inl h, h2.mono fun c h => .inl h, h3.mono fun c h => .inl h, he2.mono fun c h => .inr h⟩
   rintro c (h | h)
   ·exact hF c h
   ·have := he3 c h
    have := s5.sz
    exact ⟨by omega, (he3 c h).2⟩
  | false =>
   refine auj ?_
   exact fin1 _ _ ⟨v, e, g, lb, [], ce, cf, bv, (.slice none 0 0), i, hTT, s5, rfl, rfl, rfl, rfl, trivial⟩
 rintro σ' w5 ⟨v, e, g, lb, lo, ce, cf, bv, ov, i, hTT, s5, hsub⟩
 refine rn_sub hsub ?_
 unfold st6 at hTT
 refine au ?_
 refine pl_opE Tryz.func219 rfl rfl (opE_call (fst := []) (cap := []) rfl rfl rfl rfl (by decide +kernel) (End.mono (text_end hct s5.rd [41] (by decide)) ?_ ?_))
 rotate_left
 ·rintro x w6 ⟨e0, hX, r⟩
  exact ⟨e0, by rw [hTT, hX]; rfl, r⟩
 rintro r w6 ⟨j, hX, h6, hk6⟩
 rw [hX] at hTT
 have s6 := s5.call la h6 hk6
 have hl12 : (scells ((kk : Nat) : Int) ((v : Nat) : Int) ce cf bv ov).length = 12 := scells_len s6.fm
 refine au ?_
 refine pl_val _ rfl rfl (val_load (scells (kk : Nat) (v : Nat) ce cf bv ov) E.hT rfl rfl (by rw [hl12]; rfl) (s6.z.range (by simp))) ?_
 refine pl_op rfl rfl (opTo_storeN (scells (kk : Nat) (v : Nat) ce cf bv ov) rfl rfl rfl rfl (by rw [hl12]; exact size_st) s6.y (by rw [hl12]; simp [zst, scells_len Fm.zero]) (scells_one s6.fm) ?_)
 intro w7 hs7 hk7 hy7
 rw [splice_whole (by rw [hl12]; simp [zst, scells_len Fm.zero])] at hy7
 refine au ?_
 obtain ⟨l1, l2, l3, l4, l5⟩ := la
 obtain ⟨F, hF, h1, h2, h3, h4⟩ := s6.gd.keep hk7 (by simp; omega)
 refine rn_ret Tryz.func219 (.inr (.inr (.inl ⟨_, _, _, rfl, rfl, blk_loadVar E.hT hy7 (by rw [hl12]; rfl)⟩))) ⟨(.mk (kk : Nat) (v : Nat) e g lb lo, j), hTT, ⟨scells (kk : Nat) (v : Nat) ce cf bv ov, F, rfl, StmtV.of h1 h2 h3 h4, fun c hc => ?_⟩, s6.rd.put s6.y (by omega) hk7 (by decide), s6.kp.trB hk7 (by omega)⟩
 have := hF c hc
 have := hk04.size
 omega
end
end
section
open Go.Proofs
section
variable {w0 w w' : World} {lv vv : Value} {ts : List Tok} {fin b i : Nat} {vs : List VarT}
theorem isT_must {s : List UInt8} (h : isT ts i s = true) : mustP ts fin s i = .ok (i + 1) := by
 unfold mustP
 rw [if_pos h]
theorem let_end (hct : Ct ts) (hvl : vs.length ≤ 100000) (h : Rd w0 lv ts fin b vv vs w i) (hlet : isT ts i letT = true) :
  Goes 193 [.pointer (some ⟨b, 0, none⟩)] w0 w (letP ts fin i) fun q _ w' => (∃ vv', Rd w0 lv ts fin b vv' (vs ++ [q.1]) w' q.2) ∧ ∃ fp : List Nat, (∀ k ∈ fp, k = b ∨ vv.ownBlock = some k) ∧ Keep fp w w' := by
 have hbw := h.lt
 refine end_of 35 Tryz.func193 rfl rfl (by simp) ?_
 refine au ?_
 obtain ⟨TOT, hTOT⟩ : ∃ TOT, TOT = letP ts fin i := ⟨_, rfl⟩
 rw [← hTOT]
 have hT1 : TOT = bnd (takeP ts fin (fun t => nameB t.text) (i + 1)) fun q => bnd (takeP ts fin (fun t => t.num) q.2) fun p => .ok ((str q.1.text, sizeP p.1.val), p.2) := by
  rw [hTOT]
  unfold letP
  rw [name_take]
  cases takeP ts fin (fun t => nameB t.text) (i + 1) with
  | error e => rfl
  | ok q =>
   show bnd (numP ts fin q.2) _ = bnd (takeP ts fin (fun t => t.num) q.2) _
   rw [num_take]
   cases takeP ts fin (fun t => t.num) q.2 <;> rfl
 refine pl_opE Tryz.func193 rfl rfl (opE_call (fst := []) (cap := []) rfl rfl rfl rfl (by decide +kernel) (End.mono (text_end hct h letT (by decide)) ?_ ?_))
 rotate_left
 ·rintro x w1 ⟨e, hX, r⟩
  rw [isT_must hlet] at hX
  cases hX
 rintro r w1 ⟨j, hX, h1, hk1⟩
 rw [isT_must hlet] at hX
 injection hX with hX
 subst hX
 refine au ?_
 refine pl_opE Tryz.func193 rfl rfl (opE_call (fst := []) (cap := []) rfl rfl rfl rfl (by decide +kernel) (End.mono (takeName_end h1) ?_ ?_))
 rotate_left
 ·rintro x w1 ⟨e, hX, r⟩
  exact ⟨e, by rw [hT1, hX]; rfl, r⟩
 rintro r w2 ⟨⟨t, j⟩, hX, rfl, h2, hk2⟩
 rw [hX] at hT1
 have hT2 : TOT = bnd (takeP ts fin (fun t => t.num) j) fun p => .ok ((str t.text, sizeP p.1.val), p.2) := hT1
 refine pl_op rfl rfl (opTo_allocN _ rfl zero_tok ?_)
 intro w3 b2 hb20 hs3 hk3 hz3
 refine pl_op rfl rfl (opTo_storeN (tokL t) rfl rfl rfl rfl size_tok hz3 (by simp [tokC, tokL]) (tokC_one _ _ _ _) ?_)
 intro w4 hs4 hk4 hz4
 rw [splice_whole (by rfl)] at hz4
 have hk24 : Keep [] w2 w4 := hk3.trB hk4 (by omega)
 have h4 := h2.keep0 hk24
 have hk04 : Keep [b] w w4 := (hk1.tr hk2).tr0 hk24
 have hb2w : w.heap.size ≤ b2 := by have := hk1.size; have := hk2.size; omega
 refine au ?_
 refine pl_opE Tryz.func193 rfl rfl (opE_call (fst := []) (cap := []) rfl rfl rfl rfl (by decide +kernel) (End.mono (takeNum_end h4) ?_ ?_))
 rotate_left
 ·rintro x w1 ⟨e, hX, r⟩
  exact ⟨e, by rw [hT2, hX]; rfl, r⟩
 rintro r w5 ⟨⟨u, k⟩, hX, rfl, h5, hk5⟩
 rw [hX] at hT2
 have hT3 : TOT = .ok ((str t.text, sizeP u.val), k) := hT2
 have hz5 := hk5.blk hz4 (by simp; omega)
 refine pl_op rfl rfl (opTo_allocN _ rfl zero_tok ?_)
 intro w6 b3 hb30 hs6 hk6 hx6
 refine pl_op rfl rfl (opTo_storeN (tokL u) rfl rfl rfl rfl size_tok hx6 (by simp [tokC, tokL]) (tokC_one _ _ _ _) ?_)
 intro w7 hs7 hk7 hx7
 rw [splice_whole (by rfl)] at hx7
 have hk57 : Keep [] w5 w7 := hk6.trB hk7 (by omega)
 have hz7 := hk57.blk hz5 (by simp)
 refine lB hz7 ?_
 refine pl_val _ rfl rfl (val_build _ rfl rfl (built_v1 (str t.text)) w7) ?_
 refine pl_op rfl rfl (opTo_allocN _ rfl zero_v ?_)
 intro w8 b4 hb40 hs8 hk8 hy8
 refine pl_op rfl rfl (opTo_storeN (vcell (str t.text, 0)) rfl rfl rfl rfl size_v hy8 (by simp [vcell]) (by simp [vcell]; constructor <;> rfl) ?_)
 intro w9 hs9 hk9 hy9
 rw [splice_whole (by rfl)] at hy9
 have hk79 : Keep [] w7 w9 := hk8.trB hk9 (by omega)
 have hx9 := hk79.blk hx7 (by simp)
 have hk59 : Keep [] w5 w9 := hk57.tr hk79
 have s5 := hk5.size
 have s04 := hk04.size
 have s57 := hk57.size
 refine auj ?_
 refine rn_seq ?_
 refine rn_with (fun σ' w' => Blk w' b4 (vcell (str t.text, sizeP u.val)) 137 ∧ Keep [] w5 w' ∧ Sub [(0, .pointer (some ⟨b, 0, none⟩)), (4, .pointer (some ⟨b4, 0, none⟩))] σ') ?_ ?_
 rotate_left
 ·intro fin1
  refine rn_seq ?_
  refine rn_plain ?_
  refine auj ?_
  refine lB hx9 ?_
  by_cases h1' : 1 ≤ u.val
  ·refine ye ?_
   refine auj ?_
   refine lB hx9 ?_
   by_cases h2' : u.val ≤ 48
   ·refine ye ?_
    refine auj ?_
    refine rn_plain ?_
    refine auj ?_
    refine lB hx9 ?_
    refine auj ?_
    refine pl_op rfl rfl (opTo_storeN [.int .i64 u.val] rfl rfl rfl rfl size_int hy9 (by simp [vcell]) (by simp; rfl) ?_)
    intro w10 hs10 hk10 hy10
    refine auj ?_
    refine fin1 _ _ ⟨?_, hk59.trB hk10 (by omega), rfl, rfl, trivial⟩
    have e : sizeP u.val = u.val := by
     unfold sizeP
     rw [if_pos ⟨h1', h2'⟩]
    rw [e]
    exact hy10
   ·refine nay ?_
    refine auj ?_
    refine fin1 _ _ ⟨?_, hk59, rfl, rfl, trivial⟩
    have e : sizeP u.val = 0 := by
     unfold sizeP
     rw [if_neg (by omega)]
    rw [e]
    exact hy9
  ·refine nay ?_
   refine auj ?_
   refine fin1 _ _ ⟨?_, hk59, rfl, rfl, trivial⟩
   have e : sizeP u.val = 0 := by
    unfold sizeP
    rw [if_neg (by omega)]
   rw [e]
   exact hy9
 rintro σ' w10 ⟨hy10, hk10, hsub⟩
 refine rn_sub hsub ?_
 have h10 := h5.keep0 hk10
 obtain ⟨y, hy⟩ : ∃ y, y = (str t.text, sizeP u.val) := ⟨_, rfl⟩
 rw [← hy] at hy10 hT3
 obtain ⟨a, c, hb10, hc, ha⟩ := h10.blk
 obtain ⟨av, cv, hvv⟩ := h10.var.form
 have hkd : Keep [] w10 w10.drew := (Keep.refl _ _).drew
 refine rn_draw (fun w' => Blk w' b4 (vcell y) 137 ∧ Blk w' b (rdC (.slice a (ts.length - k) c) fin vv) 238) [10] hMix ?_
 have hS : Blk w10.drew b4 (vcell y) 137 ∧ Blk w10.drew b (rdC (.slice a (ts.length - k) c) fin vv) 238 := ⟨hkd.blk hy10 (by simp), hkd.blk hb10 (by simp)⟩
 refine dp 0 ?_
 refine dp 1 ?_
 refine dp 2 ?_
 refine dp 3 ?_
 refine dp 4 ?_
 refine dr_val 5 _ rfl (by decide +kernel) rfl rfl (fun w9 hS9 => val_load (vcell y) hT rfl rfl rfl (hS9.1.range (by rfl))) hS ?_
 refine dr_op 6 rfl (by decide +kernel) rfl rfl (opTo_sliceN _ _ rfl rfl (slice_v (.string y.1) (.int .i64 y.2)) ?_)
 intro w11 g11 hg11 hs11 hk11 hb11
 have hkd11 : Keep [] w10 w11 := hkd.tr hk11
 have hS11 : Blk w11 b4 (vcell y) 137 ∧ Blk w11 b (rdC (.slice a (ts.length - k) c) fin vv) 238 := ⟨hk11.blk hS.1 (by simp), hk11.blk hS.2 (by simp)⟩
 refine ⟨fun _ => hS11, ?_⟩
 have h11 := h10.keep0 hkd11
 have sw0 := h11.kp.size
 refine dr_op 7 rfl (by decide +kernel) rfl rfl (opTo_app w0.heap.size 137 2 24 (vs.flatMap vcell) (vcell y) rfl rfl rfl (by decide +kernel) h11.var (hb11.range (by rfl)) rfl (by intro x hx; simp only [vcell, List.mem_cons, List.not_mem_nil, or_false] at hx; rcases hx with rfl | rfl <;> rfl) (by decide) (by simp only [maxLen]; omega) (by omega) (by omega) ?_)
 intro g12 cap12 w12 hown12 hor12
 have hvw : ∀ q, vv.ownBlock = some q → q < w.heap.size := fun q hq => (h.var.lt q hq).2
 have hb4n : ∀ q, vv.ownBlock = some q → b4 ≠ q := fun q hq => by have := hvw q hq; omega
 have hbn : ∀ q, vv.ownBlock = some q → b ≠ q := fun q hq => own_ne h11.var hS11.2 (by decide) q hq
 have hS12 : Blk w12 b4 (vcell y) 137 ∧ Blk w12 b (rdC (.slice a (ts.length - k) c) fin vv) 238 := ⟨app_blk hS11.1 hb4n hor12, app_blk hS11.2 hbn hor12⟩
 have hk12 : ∃ fp : List Nat, (∀ q ∈ fp, vv.ownBlock = some q) ∧ Keep fp w11 w12 := by
  rcases hor12 with ⟨h1, _, h2⟩ | ⟨_, h2, _⟩
  ·exact ⟨[g12], by simp [h1], h2⟩
  ·exact ⟨[], by simp, h2⟩
 obtain ⟨fp, hfp, hk12⟩ := hk12
 refine ⟨fun _ => hS12, ?_⟩
 refine tk 8 ?_
 refine tk 9 ?_
 refine dr_op 10 rfl (by decide +kernel) rfl rfl (opTo_storeN [.slice (some ⟨g12, 0, none⟩) (vs.length + 1) cap12] rfl rfl rfl rfl size_vs hS12.2 (by simp [rdC]) (by simp; rfl) ?_)
 intro w13 hs13 hk13 hb13
 have hsp : splice (rdC (.slice a (ts.length - k) c) fin vv) 2 [.slice (some ⟨g12, 0, none⟩) (vs.length + 1) cap12] = rdC (.slice a (ts.length - k) c) fin (.slice (some ⟨g12, 0, none⟩) (vs.length + 1) cap12) := rfl
 rw [hsp] at hb13
 refine ⟨fun h => absurd (by simp) h, ?_⟩
 refine dr_done (by decide +kernel) ?_
 refine rn_end Tryz.func193 (.inr (.inl ⟨rfl, rfl⟩)) ⟨(y, k), hT3, ⟨.slice (some ⟨g12, 0, none⟩) (vs.length + 1) cap12, ?_⟩, b :: fp, ?_, ?_⟩
 ·have hnew := h.new
  refine ⟨h11.le, ?_, hnew, ?_, ?_, ⟨a, c, hb13, hc, ha⟩⟩
  ·refine (h11.kp.trans hk12 (fun q hq => .inr ?_)).trB hk13 hnew
   exact (h11.var.lt q (hfp q hq)).1
  ·obtain ⟨Bt, ho⟩ := h11.tok
   refine ⟨Bt, ?_⟩
   have ho12 : Own w12 Bt 231 4 lv ts.length (ts.flatMap tokL) := by
    refine ho.keep hk12 (fun q hq hm => ?_)
    have hvq := hfp q hm
    rcases h11.var.2 with ⟨hv, _⟩ | ⟨g', c', cur', hv, _, hg', _⟩
    ·rw [hv] at hvq; simp [Value.ownBlock] at hvq
    ·rw [hv] at hvq
     simp [Value.ownBlock] at hvq
     subst hvq
     exact own_ne ho hg' (by decide) _ hq rfl
   exact ho12.keep hk13 (fun q hq => by simp; exact fun e => own_ne ho12 hS12.2 (by decide) q hq e.symm)
  ·have e1 : (vs ++ [y]).length = vs.length + 1 := by simp
   have e2 : (vs ++ [y]).flatMap vcell = vs.flatMap vcell ++ vcell y := by simp
   rw [e1, e2]
   exact hown12.keep hk13 (fun q hq => by simp; exact fun e => own_ne hown12 hS12.2 (by decide) q hq e.symm)
 ·intro q hq
  rcases List.mem_cons.1 hq with rfl | hq
  ·exact .inl rfl
  ·exact .inr (hfp q hq)
 ·have hk0 : Keep (b :: fp) w w10 := ((hk04.tr hk5).tr0 hk10).mono (fun q hq => .inl (by simp at hq; simp [hq]))
  exact ((hk0.tr0 hkd11).trans hk12 (fun q hq => .inl (List.mem_cons_of_mem _ hq))).trans hk13 (fun q hq => .inl (by simp at hq; simp [hq]))
end
end
section
open Go.Proofs
theorem built_pr (a a' : Option Addr) (n c n' c' : Nat) : Tryz.prog.built 75 [(0, .slice a n c), (1, .slice a' n' c')] = some [Value.slice a n c, .slice a' n' c'].toArray := by kernel_rfl
def PgR (w0 w' : World) (r : Value) (vs : List VarT) (body : List ST) : Prop := CapV r ∧ ∃ F : Nat → Prop, ProgV F w' r vs body ∧ ∀ c, F c → w0.heap.size ≤ c ∧ c < w'.heap.size
theorem PgR.keep {w0 w w' : World} {r : Value} {vs : List VarT} {body : List ST} {fp : List Nat} (h : PgR w0 w r vs body) (hk : Keep fp w w') (hfp : ∀ c ∈ fp, c < w0.heap.size) : PgR w0 w' r vs body := by
 obtain ⟨h1, F, h2, h3⟩ := h
 exact ⟨h1, F, h2.keep hk (fun c hc => ⟨(h3 c hc).2, fun hm => by have := hfp c hm; have := (h3 c hc).1; omega⟩), fun c hc => ⟨(h3 c hc).1, Nat.lt_of_lt_of_le (h3 c hc).2 hk.size⟩⟩
section
variable {w0 w w' : World} {lv vv : Value} {ts : List Tok} {fin b i : Nat} {vs : List VarT}
theorem letP_lt : ∀ (i : Nat) (r : VarT × Nat), letP ts fin i = .ok r → i < r.2 ∧ r.2 ≤ ts.length := fun _ _ h => letP_ok h
theorem program_end (hct : Ct ts) (hw0 : Lw w0) (h : Rd w0 lv ts fin b (.slice none 0 0) [] w 0) :
  Goes 165 [.pointer (some ⟨b, 0, none⟩)] w0 w (readP ts fin) fun q r w' => PgR w0 w' r q.1 q.2 ∧ Keep [] w0 w' := by
 have hlen := hct.len
 have hbw := h.lt
 refine end_of 17 Tryz.func165 rfl rfl (by simp) ?_
 refine au ?_
 refine pl_op rfl rfl (opTo_boxN [.pointer (some ⟨b, 0, none⟩)] rfl rfl rfl ?_)
 intro w1 bx hbx hs1 hk1 hx1
 refine pl_op rfl rfl (opTo_allocN _ rfl zero_pr ?_)
 intro w2 b2 hb20 hs2 hk2 hz2
 have hk02 := hk1.tr hk2
 have h2 := h.keep0 hk02
 have hx2 := hk2.blk hx1 (by simp)
 obtain ⟨TOT, hTOT⟩ : ∃ TOT, TOT = readP ts fin := ⟨_, rfl⟩
 rw [← hTOT]
 have hT0 : TOT = bnd (untilP (fun j => !isT ts j letT) (letP ts fin) (ts.length + 1 - 0) 0) fun (r, k) => bnd (bodyP ts fin ([] ++ r) k) fun (b, _) => .ok ([] ++ r, b) := by
  rw [hTOT]
  rfl
 have hw0w : w0.heap.size ≤ w.heap.size := h.kp.size
 refine au ?_
 refine rn_ind (fun m σ w' => ∃ (j : Nat) (vs : List VarT) (vv : Value), m = ts.length + 1 - j ∧ σ = [(1, .pointer (some ⟨bx, 0, none⟩)), (2, .pointer (some ⟨b2, 0, none⟩))] ∧
  TOT = bnd (untilP (fun j => !isT ts j letT) (letP ts fin) (ts.length + 1 - j) j) (fun (r, k) => bnd (bodyP ts fin (vs ++ r) k) fun (b, _) => .ok (vs ++ r, b)) ∧ vs.length ≤ j ∧ Rd w0 lv ts fin b vv vs w' j ∧
  Blk w' bx [.pointer (some ⟨b, 0, none⟩)] 236 ∧ Blk w' b2 pz 75) _ _ ?_ ⟨0, [], .slice none 0 0, rfl, rfl, hT0, Nat.le_refl _, h2, hx2, hz2⟩ ?_
 ·exact ⟨rfl, rfl, trivial⟩
 rintro m σ w3 ih ⟨j, vs, vv, rfl, rfl, hT3, hvj, h3, hx3, hz3⟩
 have hjl := h3.le
 refine lB hx3 ?_
 refine oC (stands_ret hct h3 letT (by decide)) ?_
 rintro r w4 ⟨rfl, rfl⟩
 have hu : untilP (fun j => !isT ts j letT) (letP ts fin) (ts.length + 1 - j) j = if (!isT ts j letT) = true then .ok ([], j) else bnd (letP ts fin j) fun (t, k) => bnd (untilP (fun j => !isT ts j letT) (letP ts fin) (ts.length - j) k) fun (r, k) => .ok (t :: r, k) := by
  have e : ts.length + 1 - j = (ts.length - j) + 1 := by omega
  rw [e]
  rfl
 obtain ⟨q, hq⟩ : ∃ q, q = isT ts j letT := ⟨_, rfl⟩
 rw [← hq] at hu ⊢
 cases q with
 | true =>
  rw [if_neg (by decide)] at hu
  have hT4 : TOT = bnd (letP ts fin j) fun q => bnd (untilP (fun j => !isT ts j letT) (letP ts fin) (ts.length + 1 - q.2) q.2) (fun (r, k) => bnd (bodyP ts fin ((vs ++ [q.1]) ++ r) k) fun (b, _) => .ok ((vs ++ [q.1]) ++ r, b)) := by
   rw [hT3, hu]
   cases hc : letP ts fin j with
   | error e => rfl
   | ok q =>
    obtain ⟨t, j'⟩ := q
    have h1 := letP_ok hc
    dsimp only at h1
    show bnd (bnd (untilP _ (letP ts fin) (ts.length - j) j') _) _ = bnd (untilP _ (letP ts fin) (ts.length + 1 - j') j') _
    rw [untilP_fuel letP_lt (ts.length - j) (ts.length + 1 - j') j' h1.2 (by omega) (by omega)]
    cases untilP (fun j => !isT ts j letT) (letP ts fin) (ts.length + 1 - j') j' with
    | error e => rfl
    | ok q =>
     obtain ⟨r', k'⟩ := q
     show bnd (bodyP ts fin (vs ++ t :: r') k') _ = bnd (bodyP ts fin (vs ++ [t] ++ r') k') _
     rw [show vs ++ t :: r' = vs ++ [t] ++ r' by simp]
  refine lB hx3 ?_
  refine pl_opE Tryz.func165 rfl rfl (opE_call (fst := []) (cap := []) rfl rfl rfl rfl (by decide +kernel) (End.mono (let_end hct (by omega) h3 hq.symm) ?_ ?_))
  rotate_left
  ·rintro x w5 ⟨e, hX, r⟩
   exact ⟨e, by rw [hT4, hX]; rfl, r⟩
  rintro r w5 ⟨⟨y, j'⟩, hX, ⟨vv', h5⟩, fp, hfp, hk5⟩
  have hlt := letP_ok hX
  dsimp only at hlt
  rw [hX] at hT4
  obtain ⟨a0, c0, hb0, _⟩ := h3.blk
  have hx5 := hk5.blk hx3 (fun hm => (hfp bx hm).elim (fun e => hx3.ne hb0 (by decide) e) fun e => own_ne h3.var hx3 (by decide) bx e rfl)
  have hz5 := hk5.blk hz3 (fun hm => (hfp b2 hm).elim (fun e => hz3.ne hb0 (by decide) e) fun e => own_ne h3.var hz3 (by decide) b2 e rfl)
  refine au ?_
  refine rn_sub ?_ (ih _ _ _ ?_ ⟨j', vs ++ [y], vv', rfl, rfl, hT4, by simp; omega, h5, hx5, hz5⟩)
  ·exact ⟨rfl, rfl, trivial⟩
  ·omega
 | false =>
  rw [if_pos (by decide)] at hu
  have hT4 : TOT = bnd (bodyP ts fin vs j) fun (b, _) => .ok (vs, b) := by
   rw [hT3, hu]
   show bnd (bodyP ts fin (vs ++ []) j) _ = _
   rw [List.append_nil]
  unfold bodyP at hT4
  refine lB hx3 ?_
  refine au ?_
  refine pl_opE Tryz.func165 rfl rfl (opE_call (fst := []) (cap := []) rfl rfl rfl rfl (by decide +kernel) (End.mono (stmts_end (deep := 0) (stop := fun j => decide (ts.length ≤ j)) (one := stmtP ts fin vs 13) (g := 195) (bx := bx) hct (by decide +kernel) (stmtP_ok vs 13) (fun i w h => stmt_end hct hw0 (by omega) 13 0 i rfl h) (fun i w h hx => atEnd_ret h hx) h3 hx3) ?_ ?_))
  rotate_left
  ·rintro x w5 ⟨e, hX, r⟩
   exact ⟨e, by rw [hT4, hX]; rfl, r⟩
  rintro r w5 ⟨⟨body, j'⟩, hX, ⟨⟨a, n, c, rfl, hnc⟩, F, hF1, hF2⟩, h5, hk5⟩
  rw [hX] at hT4
  have hT5 : TOT = .ok (vs, body) := hT4
  obtain ⟨a0, c0, hb0, _⟩ := h3.blk
  have hx5 := hk5.blk hx3 (by simp; exact fun e => hx3.ne hb0 (by decide) e)
  have hz5 := hk5.blk hz3 (by simp; exact fun e => hz3.ne hb0 (by decide) e)
  obtain ⟨a5, c5, hb5, _⟩ := h5.blk
  obtain ⟨av, cv, rfl⟩ := h5.var.form
  refine lB hx5 ?_
  refine lB hb5 ?_
  refine au ?_
  refine pl_val _ rfl rfl (val_build _ rfl rfl (built_pr av a vs.length cv n c) w5) ?_
  refine pl_op rfl rfl (opTo_storeN [.slice av vs.length cv, .slice a n c] rfl rfl rfl rfl size_pr hz5 (by simp [pz]) (one_pr _ _ _ _ _ _) ?_)
  intro w6 hs6 hk6 hz6
  rw [splice_whole (by rfl)] at hz6
  refine au ?_
  have hb2w : w0.heap.size ≤ b2 := by have := hk1.size; omega
  have h6 := h5.put hz5 hb2w hk6 (by decide)
  have s3 : b2 < w4.heap.size := hz3.lt
  have hF6 : StmtsV F w6 (.slice a n c) body := hF1.keep hk6 (fun k hk => ⟨(hF2 k hk).2, by simp; have := (hF2 k hk).1; omega⟩)
  have hv6 := vars_own h6.var
  refine rn_ret Tryz.func165 (.inr (.inr (.inl ⟨_, _, _, rfl, rfl, blk_loadVar hT hz6 rfl⟩))) ⟨(vs, body), hT5, ⟨⟨_, a, n, c, rfl, hnc⟩, fun k => (Value.slice av vs.length cv).ownBlock = some k ∨ F k, ⟨_, _, rfl, hv6.mono fun k hk => .inl hk, hF6.mono fun k hk => .inr hk⟩, ?_⟩, h6.kp⟩
  rintro k (hk | hk)
  ·exact h6.var.lt k hk
  ·have := hF2 k hk
   have := h3.kp.size
   have := hk6.size
   omega
end
theorem caught {w : World} {b5 : Nat} (hb : Blk w b5 [.int .i64 0, .int .i64 0] 34) (e : Flt) :
  CallsD Tryz.prog 164 [Value.pointer (some ⟨b5, 0, none⟩)].toArray (.panicking (pan (gvV e))) w fun en u' w' => en = .returned (.tuple #[]) ∧ u' = .panicking [{ v := gvV e, recovered := true }] ∧ Blk w' b5 [.int .i64 e.1, .int .i64 e.2] 34 ∧ Keep [b5] w w' := by
 refine callsD_of 8 Tryz.func164 rfl rfl (by simp) ?_
 refine rnD_seq ?_
 refine rnD_recover (gvV e) rfl rfl rfl (fun a ha => rfl) ?_
 refine au ?_
 refine pl_val _ rfl rfl (val_errSome _ _ (by decide +kernel) rfl rfl w) ?_
 refine au ?_
 refine pl_val _ rfl rfl (val_assert (by decide +kernel) rfl rfl w) ?_
 refine pl_val _ rfl rfl (val_fieldAgg 0 [.int .i64 e.1, .int .i64 e.2] [.int .i64 e.1, .int .i64 e.2] rfl rfl (m := 2) (by decide +kernel) rfl w) ?_
 refine pl_op rfl rfl (opTo_storeN [.int .i64 e.1, .int .i64 e.2] rfl rfl rfl rfl size_fault hb (by simp) (one_fault _ _) ?_)
 intro w1 hs1 hk1 hb1
 rw [splice_whole (by rfl)] at hb1
 refine au ?_
 exact rn_endX Tryz.func164 rfl (.inr (.inl ⟨rfl, rfl⟩)) ⟨rfl, rfl, hb1, hk1⟩
theorem uncaught (w : World) (b5 : Nat) :
  CallsD Tryz.prog 164 [Value.pointer (some ⟨b5, 0, none⟩)].toArray .returning w fun en u' w' => en = .returned (.tuple #[]) ∧ u' = .returning ∧ w' = w := by
 refine callsD_of 8 Tryz.func164 rfl rfl (by simp) ?_
 refine rnD_seq ?_
 refine rnD_norec rfl rfl rfl (fun a ha => rfl) ?_
 refine au ?_
 refine pl_val _ rfl rfl (val_errNil (by decide +kernel) rfl rfl w) ?_
 refine au ?_
 exact rn_endX Tryz.func164 rfl (.inr (.inl ⟨rfl, rfl⟩)) ⟨rfl, rfl, rfl⟩
end
section
open Go.Proofs
def Eok {α : Type} (x : Except Flt α) : Prop := ∀ e, x = .error e → e.1 ≠ 0
section
variable {ts : List Tok} {fin : Nat}
theorem eok_ok {α : Type} (a : α) : Eok (.ok a : Except Flt α) := fun _ h => by cases h
theorem eok_bnd {α β : Type} {x : Except Flt α} {f : α → Except Flt β} (h1 : Eok x) (h2 : ∀ a, x = .ok a → Eok (f a)) : Eok (bnd x f) := by
 cases x with
 | error e =>
  intro e' he
  injection he with he
  subst he
  exact h1 _ rfl
 | ok a => exact h2 a rfl
theorem eok_wrong {α : Type} {code : Int} {i : Nat} (h : code ≠ 0) : Eok (.error (wrongAt ts fin code i) : Except Flt α) := by
 intro e he
 injection he with he
 subst he
 unfold wrongAt
 split
 ·exact h
 ·show (if code = 5 then 6 else code) ≠ 0
  split <;> omega
theorem eok_must (s : List UInt8) (i : Nat) : Eok (mustP ts fin s i) := by
 unfold mustP
 split
 ·exact eok_ok _
 ·exact eok_wrong (by decide)
theorem eok_num (i : Nat) : Eok (numP ts fin i) := by
 unfold numP
 split
 ·split
  ·exact eok_ok _
  ·exact eok_wrong (by decide)
 ·exact eok_wrong (by decide)
theorem eok_name (i : Nat) : Eok (nameP ts fin i) := by
 unfold nameP
 split
 ·split
  ·exact eok_ok _
  ·exact eok_wrong (by decide)
 ·exact eok_wrong (by decide)
theorem eok_var (vs : List VarT) (i : Nat) : Eok (varP ts fin vs i) := by
 unfold varP
 refine eok_bnd (eok_name _) fun p _ => ?_
 obtain ⟨s, j⟩ := p
 dsimp only
 split
 ·exact eok_ok _
 ·exact eok_wrong (by decide)
theorem eok_begin (of : Nat → List UInt8) (most i : Nat) : Eok (beginP ts fin of most i) := by
 unfold beginP
 refine eok_bnd (eok_must _ _) fun p _ => ?_
 split
 ·exact eok_ok _
 ·exact eok_wrong (by decide)
theorem eok_many {α : Type} {one : Nat → Except Flt (α × Nat)} (h1 : ∀ i, Eok (one i)) : ∀ m i, Eok (manyP one m i)
 | 0, _ => eok_ok _
 | m + 1, i => eok_bnd (h1 i) fun p _ => eok_bnd (eok_many h1 m p.2) fun _ _ => eok_ok _
theorem eok_until {α : Type} {st : Nat → Bool} {one : Nat → Except Flt (α × Nat)} (h1 : ∀ i, Eok (one i)) (h2 : ∀ i r, one i = .ok r → i < r.2 ∧ r.2 ≤ ts.length) : ∀ m i, i ≤ ts.length → ts.length < m + i → Eok (untilP st one m i)
 | 0, i, h, h' => by omega
 | m + 1, i, h, h' => by
  unfold untilP
  split
  ·exact eok_ok _
  ·refine eok_bnd (h1 i) fun p hp => eok_bnd (eok_until h1 h2 m p.2 ?_ ?_) fun _ _ => eok_ok _
   ·exact (h2 i p hp).2
   ·have := (h2 i p hp).1
    omega
theorem eok_expr (vs : List VarT) : ∀ f i, Eok (exprP ts fin vs f i)
 | 0, i => eok_wrong (by decide)
 | f + 1, i => by
  unfold exprP
  refine eok_bnd (eok_begin _ _ _) fun p _ => eok_bnd ?_ fun p2 _ => eok_bnd ?_ fun p3 _ => eok_bnd (eok_many (eok_expr vs f) _ _) fun p4 _ => eok_bnd (eok_must _ _) fun _ _ => eok_ok _
  ·split
   ·exact eok_num _
   ·exact eok_ok _
  ·split
   ·exact eok_var _ _
   ·exact eok_ok _
theorem eok_list {one : Nat → Except Flt (ST × Nat)} (h1 : ∀ i, Eok (one i)) (h2 : ∀ i r, one i = .ok r → i < r.2 ∧ r.2 ≤ ts.length) (i : Nat) : Eok (listP ts fin one i) := by
 unfold listP
 refine eok_bnd (eok_must _ _) fun j hj => eok_bnd (eok_until h1 h2 _ _ ?_ ?_) fun p _ => eok_bnd (eok_must _ _) fun _ _ => eok_ok _
 ·have := mustP_ok hj
  omega
 ·have := mustP_ok hj
  omega
theorem eok_stmt (vs : List VarT) : ∀ f i, Eok (stmtP ts fin vs f i)
 | 0, i => eok_wrong (by decide)
 | f + 1, i => by
  unfold stmtP
  refine eok_bnd (eok_begin _ _ _) fun p _ => eok_bnd ?_ fun p2 _ => eok_bnd ?_ fun p3 _ => eok_bnd ?_ fun p4 _ => eok_bnd ?_ fun p5 _ => eok_bnd ?_ fun p6 _ => eok_bnd (eok_must _ _) fun _ _ => eok_ok _
  ·split
   ·exact eok_var _ _
   ·exact eok_ok _
  ·split
   ·exact eok_expr _ _ _
   ·exact eok_ok _
  ·split
   ·exact eok_expr _ _ _
   ·exact eok_ok _
  ·split
   ·exact eok_list (eok_stmt vs f) (stmtP_ok vs f) _
   ·exact eok_ok _
  ·split
   ·exact eok_list (eok_stmt vs f) (stmtP_ok vs f) _
   ·exact eok_ok _
theorem eok_let (i : Nat) : Eok (letP ts fin i) := by
 unfold letP
 exact eok_bnd (eok_name _) fun p _ => eok_bnd (eok_num _) fun _ _ => eok_ok _
theorem eok_parseT : Eok (parseT ts fin) := by
 unfold parseT readP
 refine eok_bnd (eok_bnd (eok_until eok_let (fun i r hr => letP_ok hr) _ _ (Nat.zero_le _) (by omega)) fun p hp => eok_bnd (eok_until (eok_stmt p.1 13) (stmtP_ok p.1 13) _ _ ?_ ?_) fun _ _ => eok_ok _) fun p _ => ?_
 ·exact (untilP_ok (fun i r hr => letP_ok hr) _ _ _ (Nat.zero_le _) hp).2.1
 ·have := (untilP_ok (fun i r hr => letP_ok hr) _ _ _ (Nat.zero_le _) hp).2.1
  omega
 ·obtain ⟨vs, b⟩ := p
  dsimp only
  split
  ·rename_i h
   intro e he
   injection he with he
   subst he
   exact h
  ·exact eok_ok _
end
theorem parseOf_err {l : List UInt8} {e : Flt} (h : parseOf l = .error e) : e.1 ≠ 0 := by
 unfold parseOf at h
 split at h
 ·rename_i h1
  injection h with h
  subst h
  exact h1
 ·exact eok_parseT e h
end
section
open Go.Proofs
theorem built_rd (a : Option Addr) (n c : Nat) (fin : Int) : Tryz.prog.built 238 [(0, .slice a n c), (1, .int .i64 fin)] = some [Value.slice a n c, .int .i64 fin, .slice none 0 0].toArray := by kernel_rfl
theorem read_ret {w : World} {B : Nat} {lv : Value} {ts : List Tok} (fin : Nat) (hct : Ct ts) (hw : Lw w) (hl : Own w B 231 4 lv ts.length (ts.flatMap tokL)) :
  Ret Tryz.prog 129 [lv, .int .i64 (fin : Nat)] w fun r w' => (∃ x, r = .tuple #[x, .agg #[.int .i64 (fltOf (readP ts fin)).1, .int .i64 (fltOf (readP ts fin)).2]] ∧ PgR w w' x (prgOf (readP ts fin)).1 (prgOf (readP ts fin)).2) ∧ Keep [] w w' := by
 obtain ⟨al, cl, rfl⟩ := hl.form
 refine ret_of 15 Tryz.func129 rfl rfl (by simp) ?_
 refine au ?_
 refine pl_op rfl rfl (opTo_allocN _ rfl zero_pr ?_)
 intro w1 b4 hb40 hs1 hk1 hp1
 refine pl_op rfl rfl (opTo_allocN _ rfl zero_fault ?_)
 intro w2 b5 hb50 hs2 hk2 hf2
 have hp2 := hk2.blk hp1 (by simp)
 have hk02 := hk1.tr hk2
 refine au ?_
 refine pl_defer (d := ⟨.fn (.func 164) #[.pointer (some ⟨b5, 0, none⟩)], #[]⟩) rfl rfl (fun a ha => ?_) ?_
 ·have := ha.has 7 _ rfl
  simp [execOp, resolve, Act.eval, this, Deferred.ofValue]
 refine au ?_
 refine pl_val _ rfl rfl (val_build _ rfl rfl (built_rd al ts.length cl (fin : Nat)) w2) ?_
 refine pl_op rfl rfl (opTo_boxN (rdC (.slice al ts.length cl) fin (.slice none 0 0)) rfl rfl rfl ?_)
 intro w3 b hb0 hs3 hk3 hz3
 refine au ?_
 have hl3 := hl.keep (hk02.tr hk3) (by simp)
 have h3 : Rd w2 (.slice al ts.length cl) ts fin b (.slice none 0 0) [] w3 0 := by
  refine ⟨Nat.zero_le _, hk3, by omega, ⟨B, hl3⟩, Own.nil _ _ _ _, ⟨al, cl, by rw [Nat.sub_zero]; exact hz3, by rw [Nat.sub_zero]; exact own_cap hl, fun h0 => ?_⟩⟩
  rcases hl.2 with ⟨_, h2⟩ | ⟨g, cap, cur, h1, _⟩
  ·omega
  ·injection h1 with h1 _ h2
   subst h1 h2
   exact ⟨g, _, rfl, rfl⟩
 refine pl_opD Tryz.func129 rfl rfl rfl (opE_call (fst := []) (cap := []) rfl rfl rfl rfl (by decide +kernel) (End.mono (program_end hct (hw.keep hk02) h3) ?_ ?_))
 ·rintro r w4 ⟨⟨vs, body⟩, hX, hP, hk4⟩
  obtain ⟨⟨vv, a, n, c, rfl, hnc⟩, _⟩ := hP.1, hP
  obtain ⟨F, ⟨vv', bv', he, hv, _⟩, _⟩ := hP.2
  have hvv : vv = vv' := by
   injection he with he
   have := congrArg Array.toList he
   simp at this
   exact this.1
  subst hvv
  obtain ⟨av, cv, rfl⟩ := hv.form
  have hp4 := hk4.blk hp2 (by simp)
  have hf4 := hk4.blk hf2 (by simp)
  refine pl_val _ rfl rfl (val_build _ rfl rfl built_fault0 w4) ?_
  refine pl_op rfl rfl (opTo_storeN [.slice av vs.length cv, .slice a n c] rfl rfl rfl rfl size_pr hp4 (by simp [pz]) (one_pr _ _ _ _ _ _) ?_)
  intro w5 hs5 hk5 hp5
  rw [splice_whole (by rfl)] at hp5
  have hf5 := hk5.blk hf4 (by simp; omega)
  refine pl_op rfl rfl (opTo_storeN [.int .i64 0, .int .i64 0] rfl rfl rfl rfl size_fault hf5 (by simp) (one_fault _ _) ?_)
  intro w6 hs6 hk6 hf6
  rw [splice_whole (by rfl)] at hf6
  have hp6 := hk6.blk hp5 (by simp; omega)
  refine au ?_
  refine rn_retD Tryz.func129 rfl (fun ac ha => ⟨fun h => (by cases h), .func 164, _, 164, [Value.pointer (some ⟨b5, 0, none⟩)].toArray, rfl, rfl, ?_⟩)
  refine CallsD.mono' (uncaught w6 b5) ?_
  rintro e u' w7 ⟨rfl, rfl, rfl⟩
  refine ⟨.tuple #[.agg #[.slice av vs.length cv, .slice a n c], .agg #[.int .i64 0, .int .i64 0]], ?_, .inl ⟨_, rfl, ⟨.agg #[.slice av vs.length cv, .slice a n c], ?_, ?_⟩, ?_⟩⟩
  ·have i4 := ha.has 4 _ rfl
   have i5 := ha.has 5 _ rfl
   have l4 := blk_loadVar (t := 75) hT hp6 rfl
   have l5 := blk_loadVar (t := 34) hT hf6 rfl
   show (results Tryz.f129 ac.tmps).run _ _ = _
   simp only [results, show Tryz.f129.results = #[.cell 4 75, .cell 5 34] from rfl]
   simp [i4, i5, asAddr, l4, l5]
  ·rw [hX]
   rfl
  ·rw [hX]
   have hP6 : PgR w2 w7 (.agg #[.slice av vs.length cv, .slice a n c]) vs body := (hP.keep hk5 (by simp; omega)).keep hk6 (by simp; omega)
   obtain ⟨h1, F, h2, h3⟩ := hP6
   exact ⟨h1, F, h2, fun c hc => by have := h3 c hc; have := hk02.size; omega⟩
  ·exact ((hk02.tr hk4).trB hk5 (by omega)).trB hk6 (by omega)
 ·rintro v w4 ⟨e, hX, rfl, hk4⟩
  intro ac ha
  have hp4 := hk4.blk hp2 (by simp)
  have hf4 := hk4.blk hf2 (by simp)
  refine ⟨fun h => (by cases h), .func 164, _, 164, [Value.pointer (some ⟨b5, 0, none⟩)].toArray, rfl, rfl, ?_⟩
  refine CallsD.mono' (caught hf4 e) ?_
  rintro en u' w5 ⟨rfl, rfl, hf5, hk5⟩
  have hp5 := hk5.blk hp4 (by simp; omega)
  refine ⟨.tuple #[.agg pz.toArray, .agg #[.int .i64 e.1, .int .i64 e.2]], ?_, .inl ⟨_, rfl, ⟨.agg pz.toArray, ?_, ?_⟩, ?_⟩⟩
  ·have i4 := ha.has 4 _ rfl
   have i5 := ha.has 5 _ rfl
   have l4 := blk_loadVar (t := 75) hT hp5 rfl
   have l5 := blk_loadVar (t := 34) hT hf5 rfl
   show (results Tryz.f129 ac.tmps).run _ _ = _
   simp only [results, show Tryz.f129.results = #[.cell 4 75, .cell 5 34] from rfl]
   simp [i4, i5, asAddr, l4, l5]
  ·rw [hX]
   rfl
  ·rw [hX]
   exact ⟨capV_nil, fun _ => False, progV_nil, fun c hc => hc.elim⟩
  ·exact (hk02.tr hk4).trB hk5 (by omega)
theorem scan_ct {l : List UInt8} (h : (faultOf l).1 = 0) : Ct (toksOf l) ∧ l.length ≤ 6000 ∧ (toksOf l).length ≤ 6000 := by
 obtain ⟨h1, h2, h3, _⟩ := scan_good h
 refine ⟨⟨by omega, ?_⟩, h1, by omega⟩
 rcases fault_cases l h1 with ⟨e, h4, _⟩ | ⟨ts, h4, _, h5⟩
 ·rw [h4] at h; cases h
 ·rw [h5]
  exact (toks_fine _ _ _ _ h4).1
theorem readP_size {ts : List Tok} {fin : Nat} {vs : List VarT} {body : List ST} (h : readP ts fin = .ok (vs, body)) : szSs body ≤ 3 * ts.length := by
 unfold readP at h
 obtain ⟨⟨vs', i⟩, ha, h⟩ := bnd_ok h
 obtain ⟨⟨b', j⟩, hb, h⟩ := bnd_ok h
 injection h with h
 injection h with h1 h2
 subst h1 h2
 have hi := (untilP_ok (fun i r hr => letP_ok hr) _ _ _ (Nat.zero_le _) ha).2.1
 have hj := (untilP_ok (fun i r hr => stmtP_ok vs' 13 i r hr) _ _ _ hi hb).2.1
 have hs := untilP_size (stmtP_size vs' 13) _ _ _ hb
 dsimp only at hi hj hs
 omega
theorem parse_ret (l : List UInt8) (hl : l.length ≤ 100000) {w : World} (hw : Lw w) : Ret Tryz.prog 96 [.string (str l)] w fun r w' => ParR w w' r (parseOf l) ∧ Keep [] w w' := by
 refine ret_of 39 Tryz.func96 rfl rfl (by simp) ?_
 refine au ?_
 refine pl_op rfl rfl (opTo_allocN _ rfl zero_pr ?_)
 intro w1 b2 hb20 hs1 hk1 hp1
 refine pl_op rfl rfl (opTo_allocN _ rfl zero_fault ?_)
 intro w2 b3 hb30 hs2 hk2 hf2
 have hp2 := hk2.blk hp1 (by simp)
 have hk02 := hk1.tr hk2
 refine oC (scan_ret l (by omega) (hw.keep hk02)) ?_
 rintro r w3 ⟨lv, rfl, hown3, hk3⟩
 have hk03 := hk02.tr hk3
 obtain ⟨al, cl, rfl⟩ := hown3.form
 obtain ⟨⟨fa, fb⟩, hfl⟩ : ∃ f, f = faultOf l := ⟨_, rfl⟩
 rw [← hfl]
 refine au ?_
 refine pl_op rfl rfl (opTo_allocN _ rfl zero_fault ?_)
 intro w4 b5 hb50 hs4 hk4 hg4
 refine au ?_
 refine pl_op rfl rfl (opTo_storeN [.int .i64 fa, .int .i64 fb] rfl rfl rfl rfl size_fault hg4 (by simp) (one_fault _ _) ?_)
 intro w5 hs5 hk5 hg5
 rw [splice_whole (by rfl)] at hg5
 have hk35 : Keep [] w3 w5 := hk4.trB hk5 (by omega)
 have hk25 := hk3.tr hk35
 have hp5 := hk25.blk hp2 (by simp)
 have hf5 := hk25.blk hf2 (by simp)
 have hk05 := hk03.tr hk35
 have hb25 : b2 ≠ b5 := by have := hk3.size; omega
 have hb35 : b3 ≠ b5 := by have := hk3.size; omega
 have hb5w : w.heap.size ≤ b5 := by have := hk03.size; omega
 refine lB hg5 ?_
 by_cases hz : fa = 0
 ·have h0 : (faultOf l).1 = 0 := by rw [← hfl]; exact hz
  obtain ⟨hct, hl6, htl⟩ := scan_ct h0
  have hown5 := hown3.keep hk35 (by simp)
  have hP0 : parseOf l = bnd (readP (toksOf l) l.length) fun (vs, b) => if progFault vs b ≠ 0 then .error (progFault vs b, -1) else .ok (vs, b) := by
   unfold parseOf
   rw [if_neg (by rw [h0]; decide)]
   rfl
  refine nay ?_
  refine au ?_
  refine pl_val _ rfl rfl (val_len l (by decide +kernel) rfl rfl w5) ?_
  refine oC (read_ret l.length hct (hw.keep hk05) hown5) ?_
  rintro r w6 ⟨⟨x, rfl, hP⟩, hk6⟩
  obtain ⟨X, hX⟩ : ∃ X, X = readP (toksOf l) l.length := ⟨_, rfl⟩
  rw [← hX] at hP hP0 ⊢
  obtain ⟨⟨ga, gb⟩, hgl⟩ : ∃ f, f = fltOf X := ⟨_, rfl⟩
  rw [← hgl]
  obtain ⟨⟨vv, a, n, c, rfl, hnc⟩, _⟩ := hP.1, hP
  obtain ⟨F, hPV, hFb⟩ := hP.2
  have hPV' := hPV
  obtain ⟨vv', bv', he, hv, _⟩ := hPV'
  have hvv : vv = vv' := by
   injection he with he
   have := congrArg Array.toList he
   simp at this
   exact this.1
  subst hvv
  obtain ⟨av, cv, rfl⟩ := hv.form
  have hp6 := hk6.blk hp5 (by simp)
  have hf6 := hk6.blk hf5 (by simp)
  have hg6 := hk6.blk hg5 (by simp)
  have hk06 := hk05.tr hk6
  refine au ?_
  refine pl_op rfl rfl (opTo_allocN _ rfl zero_pr ?_)
  intro w7 b6 hb60 hs7 hk7 hq7
  refine pl_op rfl rfl (opTo_storeN [.slice av (prgOf X).1.length cv, .slice a n c] rfl rfl rfl rfl size_pr hq7 (by simp [pz]) (one_pr _ _ _ _ _ _) ?_)
  intro w8 hs8 hk8 hq8
  rw [splice_whole (by rfl)] at hq8
  have hk68 : Keep [] w6 w8 := hk7.trB hk8 (by omega)
  have hg8 := hk68.blk hg6 (by simp)
  have hb5lt := hg6.lt
  refine pl_op rfl rfl (opTo_storeN [.int .i64 ga, .int .i64 gb] rfl rfl rfl rfl size_fault hg8 (by simp) (one_fault _ _) ?_)
  intro w9 hs9 hk9 hg9
  rw [splice_whole (by rfl)] at hg9
  have hq9 := hk9.blk hq8 (by simp; omega)
  have hp9 := hk9.blk (hk68.blk hp6 (by simp)) (by simp; exact hb25)
  have hf9 := hk9.blk (hk68.blk hf6 (by simp)) (by simp; exact hb35)
  have hk09 : Keep [] w w9 := (hk06.tr hk68).trB hk9 hb5w
  have s56 := hk6.size
  have s25 := hk25.size
  have s02 := hk02.size
  have hst : Stays F w6 [] := fun c hc => ⟨(hFb c hc).2, by simp⟩
  have hst8 : Stays F w8 [b5] := fun c hc => ⟨Nat.lt_of_lt_of_le (hFb c hc).2 hk68.size, by simp; have := (hFb c hc).1; have := hg5.lt; omega⟩
  have hP9 : ProgV F w9 (.agg #[.slice av (prgOf X).1.length cv, .slice a n c]) (prgOf X).1 (prgOf X).2 := (hPV.keep hk68 hst).keep hk9 hst8
  have hin9 : In F w9 := fun c hc => by have := (hFb c hc).2; have := hk68.size; have := hk9.size; omega
  refine lB hg9 ?_
  cases hXc : X with
  | error e =>
   rw [hXc] at hP0 hgl hP9
   have he1 : e = (ga, gb) := hgl.symm
   have hne : ga ≠ 0 := by
    have hpe : parseOf l = .error e := hP0
    have := parseOf_err hpe
    rw [he1] at this
    exact this
   refine ye ?_
   refine au ?_
   have hkd : Keep [] w9 w9.drew := (Keep.refl _ _).drew
   refine rn_draw (fun w' => True ∧ Blk w' b5 [.int .i64 ga, .int .i64 gb] 34) [] hMix ?_
   have hS : True ∧ Blk w9.drew b5 [.int .i64 ga, .int .i64 gb] 34 := ⟨trivial, hkd.blk hg9 (by simp)⟩
   refine dr_any 0 _ rfl (by decide +kernel) rfl rfl (fun w => val_build _ rfl rfl built_pr0 w) ?_
   refine dr_val 1 _ rfl (by decide +kernel) rfl rfl (fun w9 hS9 => val_load [.int .i64 ga, .int .i64 gb] hT rfl rfl rfl (hS9.2.range (by rfl))) hS ?_
   refine dr_op 2 rfl (by decide +kernel) rfl rfl (opTo_storeN pz rfl rfl rfl rfl size_pr (hkd.blk hp9 (by simp)) (by simp [pz]) (one_pr _ _ _ _ _ _) ?_)
   intro w10 hs10 hk10 hp10
   rw [splice_whole (by rfl)] at hp10
   refine ⟨fun _ => ⟨trivial, hk10.blk hS.2 (by simp; exact hb25.symm)⟩, ?_⟩
   have hf10 := hk10.blk (hkd.blk hf9 (by simp)) (by simp; omega)
   refine dr_op 3 rfl (by decide +kernel) rfl rfl (opTo_storeN [.int .i64 ga, .int .i64 gb] rfl rfl rfl rfl size_fault hf10 (by simp) (one_fault _ _) ?_)
   intro w11 hs11 hk11 hf11
   rw [splice_whole (by rfl)] at hf11
   have hp11 := hk11.blk hp10 (by simp; omega)
   refine ⟨fun _ => ⟨trivial, (hk11.blk (hk10.blk hS.2 (by simp; exact hb25.symm)) (by simp; exact hb35.symm))⟩, ?_⟩
   refine dr_done (by decide +kernel) ?_
   refine rn_retCC Tryz.func96 rfl rfl rfl (blk_loadVar hT hp11 rfl) (blk_loadVar hT hf11 rfl) ⟨⟨.agg pz.toArray, fun _ => False, ?_, ?_, capV_nil, fun c hc => hc.elim⟩, ((hk09.tr hkd).trB hk10 (by omega)).trB hk11 (by omega)⟩
   ·rw [hP0, he1]
    rfl
   ·rw [hP0]
    exact progV_nil
  | ok q =>
   obtain ⟨vs, body⟩ := q
   rw [hXc] at hP0 hgl hP9 hq9
   injection hgl with hga hgb
   subst hga hgb
   have hP1 : parseOf l = if progFault vs body ≠ 0 then .error (progFault vs body, -1) else .ok (vs, body) := hP0
   have hsz : szSs body ≤ 100000 := by
    have := readP_size (hX.symm.trans hXc)
    omega
   refine nay ?_
   refine au ?_
   refine pl_val _ rfl rfl (val_load [.slice av vs.length cv, .slice a n c] hT rfl rfl rfl (hq9.range (by rfl))) ?_
   have hP9' : ProgV F w9 (.agg #[.slice av vs.length cv, .slice a n c]) vs body := hP9
   refine oC (check_ret hP9' hin9 hsz) ?_
   rintro r w10 ⟨rfl, hk10⟩
   obtain ⟨cd, hcd⟩ : ∃ cd, cd = progFault vs body := ⟨_, rfl⟩
   rw [← hcd] at hP1 ⊢
   have hp10 := hk10.blk hp9 (by simp)
   have hf10 := hk10.blk hf9 (by simp)
   have hq10 := hk10.blk hq9 (by simp)
   have hk010 := hk09.tr hk10
   refine au ?_
   by_cases hc0 : cd = 0
   ·rw [if_neg (by simp [hc0])] at hP1
    refine nay ?_
    refine au ?_
    refine pl_val _ rfl rfl (val_load [.slice av vs.length cv, .slice a n c] hT rfl rfl rfl (hq10.range (by rfl))) ?_
    refine pl_val _ rfl rfl (val_build _ rfl rfl built_fault0 w10) ?_
    refine pl_op rfl rfl (opTo_storeN [.slice av vs.length cv, .slice a n c] rfl rfl rfl rfl size_pr hp10 (by simp [pz]) (one_pr _ _ _ _ _ _) ?_)
    intro w11 hs11 hk11 hp11
    rw [splice_whole (by rfl)] at hp11
    have hf11 := hk11.blk hf10 (by simp; omega)
    refine pl_op rfl rfl (opTo_storeN [.int .i64 0, .int .i64 0] rfl rfl rfl rfl size_fault hf11 (by simp) (one_fault _ _) ?_)
    intro w12 hs12 hk12 hf12
    rw [splice_whole (by rfl)] at hf12
    have hp12 := hk12.blk hp11 (by simp; omega)
    refine au ?_
    have hFlt : ∀ c, F c → w5.heap.size ≤ c := fun c hc => (hFb c hc).1
    have hb23 : b2 < w5.heap.size ∧ b3 < w5.heap.size := ⟨hp5.lt, hf5.lt⟩
    have hst10 : Stays F w9 [] := fun c hc => ⟨hin9 c hc, by simp⟩
    have hin10 : In F w10 := hin9.keep hk10
    have hst11 : Stays F w10 [b2] := fun c hc => ⟨hin10 c hc, by simp; have := hFlt c hc; omega⟩
    have hin11 : In F w11 := hin10.keep hk11
    have hst12 : Stays F w11 [b3] := fun c hc => ⟨hin11 c hc, by simp; have := hFlt c hc; omega⟩
    have hin12 : In F w12 := hin11.keep hk12
    have hP12 : ProgV F w12 (.agg #[.slice av vs.length cv, .slice a n c]) vs body := ((hP9'.keep hk10 hst10).keep hk11 hst11).keep hk12 hst12
    refine rn_retCC Tryz.func96 rfl rfl rfl (blk_loadVar hT hp12 rfl) (blk_loadVar hT hf12 rfl) ⟨⟨.agg #[.slice av vs.length cv, .slice a n c], F, ?_, ?_, ⟨_, a, n, c, rfl, hnc⟩, fun c hc => ?_⟩, (hk010.trB hk11 (by omega)).trB hk12 (by omega)⟩
    ·rw [hP1]
     rfl
    ·rw [hP1]
     exact hP12
    ·have := hFlt c hc
     have := hin12 c hc
     have := hk05.size
     omega
   ·rw [if_pos hc0] at hP1
    refine ye ?_
    refine au ?_
    refine pl_val _ rfl rfl (val_build _ rfl rfl built_pr0 w10) ?_
    refine au ?_
    refine pl_val _ rfl rfl (val_build _ rfl rfl (built_fault cd (-1)) w10) ?_
    refine pl_op rfl rfl (opTo_storeN pz rfl rfl rfl rfl size_pr hp10 (by simp [pz]) (one_pr _ _ _ _ _ _) ?_)
    intro w11 hs11 hk11 hp11
    rw [splice_whole (by rfl)] at hp11
    have hf11 := hk11.blk hf10 (by simp; omega)
    refine pl_op rfl rfl (opTo_storeN [.int .i64 cd, .int .i64 (-1)] rfl rfl rfl rfl size_fault hf11 (by simp) (one_fault _ _) ?_)
    intro w12 hs12 hk12 hf12
    rw [splice_whole (by rfl)] at hf12
    have hp12 := hk12.blk hp11 (by simp; omega)
    refine au ?_
    refine rn_retCC Tryz.func96 rfl rfl rfl (blk_loadVar hT hp12 rfl) (blk_loadVar hT hf12 rfl) ⟨⟨.agg pz.toArray, fun _ => False, ?_, ?_, capV_nil, fun c hc => hc.elim⟩, (hk010.trB hk11 (by omega)).trB hk12 (by omega)⟩
    ·rw [hP1]
     rfl
    ·rw [hP1]
     exact progV_nil
 ·have hP0 : parseOf l = .error (fa, fb) := by
   unfold parseOf
   rw [if_pos (by rw [← hfl]; exact hz), hfl]
  refine ye ?_
  refine au ?_
  have hkd : Keep [] w5 w5.drew := (Keep.refl _ _).drew
  refine rn_draw (fun w' => True ∧ Blk w' b5 [.int .i64 fa, .int .i64 fb] 34) [] hMix ?_
  have hS : True ∧ Blk w5.drew b5 [.int .i64 fa, .int .i64 fb] 34 := ⟨trivial, hkd.blk hg5 (by simp)⟩
  refine dr_any 0 _ rfl (by decide +kernel) rfl rfl (fun w => val_build _ rfl rfl built_pr0 w) ?_
  refine dr_val 1 _ rfl (by decide +kernel) rfl rfl (fun w9 hS9 => val_load [.int .i64 fa, .int .i64 fb] hT rfl rfl rfl (hS9.2.range (by rfl))) hS ?_
  refine dr_op 2 rfl (by decide +kernel) rfl rfl (opTo_storeN pz rfl rfl rfl rfl size_pr (hkd.blk hp5 (by simp)) (by simp [pz]) (one_pr _ _ _ _ _ _) ?_)
  intro w10 hs10 hk10 hp10
  rw [splice_whole (by rfl)] at hp10
  refine ⟨fun _ => ⟨trivial, hk10.blk hS.2 (by simp; exact hb25.symm)⟩, ?_⟩
  have hf10 := hk10.blk (hkd.blk hf5 (by simp)) (by simp; omega)
  refine dr_op 3 rfl (by decide +kernel) rfl rfl (opTo_storeN [.int .i64 fa, .int .i64 fb] rfl rfl rfl rfl size_fault hf10 (by simp) (one_fault _ _) ?_)
  intro w11 hs11 hk11 hf11
  rw [splice_whole (by rfl)] at hf11
  have hp11 := hk11.blk hp10 (by simp; omega)
  refine ⟨fun _ => ⟨trivial, (hk11.blk (hk10.blk hS.2 (by simp; exact hb25.symm)) (by simp; exact hb35.symm))⟩, ?_⟩
  refine dr_done (by decide +kernel) ?_
  refine rn_retCC Tryz.func96 rfl rfl rfl (blk_loadVar hT hp11 rfl) (blk_loadVar hT hf11 rfl) ⟨⟨.agg pz.toArray, fun _ => False, ?_, ?_, capV_nil, fun c hc => hc.elim⟩, ((hk05.tr hkd).trB hk10 (by omega)).trB hk11 (by omega)⟩
  ·rw [hP0]
   rfl
  ·rw [hP0]
   exact progV_nil
end
section
open Go.Proofs
abbrev tRu : Nat := 211
theorem neRuL : tRu ≠ tLg := by decide
theorem size_rn : sizeOk Tryz.prog 3 1 = true := by kernel_rfl
theorem size_rl : sizeOk Tryz.prog 2 1 = true := by kernel_rfl
theorem size_rs : sizeOk Tryz.prog 28 1 = true := by kernel_rfl
def gvI (c : Nat) : Value := .iface 264 (.agg #[.int .i64 (c : Nat)])
theorem built_gI (a : Int) : Tryz.prog.built 264 [(0, .int .i64 a)] = some [Value.int .i64 a].toArray := by kernel_rfl
theorem iGiveUp_end (c : Nat) (w : World) : End Tryz.prog 207 [.int .i64 (c : Nat)] w (fun _ _ => False) (fun v w' => v = gvI c ∧ w' = w) := by
 refine end_of 5 Tryz.func207 rfl rfl (by simp) ?_
 refine au ?_
 refine pl_val _ rfl rfl (val_build _ rfl rfl (built_gI (c : Nat)) w) ?_
 refine pl_val _ rfl rfl (val_iface (by decide +kernel) rfl rfl w) ?_
 refine pl_opE Tryz.func207 rfl rfl (opE_throw rfl rfl ?_)
 exact ⟨rfl, rfl⟩
theorem iTruth_ret (t : Bool) (w : World) : Ret Tryz.prog 272 [.bool t] w fun r w' => r = .int .i64 (bitI t) ∧ w' = w := by
 refine ret_of 4 Tryz.func272 rfl rfl (by simp) ?_
 cases t
 ·refine au ?_
  exact rn_ret Tryz.func272 (.inl ⟨_, rfl, rfl⟩) ⟨rfl, rfl⟩
 ·refine au ?_
  exact rn_ret Tryz.func272 (.inl ⟨_, rfl, rfl⟩) ⟨rfl, rfl⟩
structure Rf (w w' : World) : Prop where
 size : w.heap.size ≤ w'.heap.size
 blk : ∀ {c : Nat} {L : List Value} {e : TypeId}, Blk w c L e → e ≠ tRu → e ≠ tLg → Blk w' c L e
theorem Rf.refl (w : World) : Rf w w := ⟨Nat.le_refl _, fun h _ _ => h⟩
theorem Rf.tr {w w' w'' : World} (h : Rf w w') (h' : Rf w' w'') : Rf w w'' := ⟨Nat.le_trans h.size h'.size, fun hb h1 h2 => h'.blk (h.blk hb h1 h2) h1 h2⟩
theorem Rf.of0 {w w' : World} (h : Keep [] w w') : Rf w w' := ⟨h.size, fun hb _ _ => h.blk hb (by simp)⟩
theorem Rf.of {w w' : World} {fp : List Nat} (h : Keep fp w w') (hf : ∀ k ∈ fp, ∃ L e, Blk w k L e ∧ (e = tRu ∨ e = tLg)) : Rf w w' :=
 ⟨h.size, fun hb h1 h2 => h.blk hb fun hm => by
  obtain ⟨L, e, hb', he⟩ := hf _ hm
  rcases he with he | he
  ·exact Blk.ne hb hb' (fun h => h1 (h.trans he)) rfl
  ·exact Blk.ne hb hb' (fun h => h2 (h.trans he)) rfl⟩
structure Kx where
 vs : List VarT
 bd : List ST
 F : Nat → Prop
 inp : List Int
 fuel : Nat
 w0 : World
 b : Nat
 vv : Value
 bv : Value
 cv : Value
structure Kx.Ok (C : Kx) : Prop where
 pr : ProgV C.F C.w0 (.agg #[C.vv, C.bv]) C.vs C.bd
 hF : In C.F C.w0
 sz : ∀ x ∈ C.vs, 1 ≤ x.2 ∧ x.2 ≤ 48
 vl : C.vs.length ≤ 8
 sum : sumV C.vs ≤ 48
 fu : C.fuel ≤ 3000
 il : C.inp.length ≤ 40
 ge : C.w0.heap.size ≤ C.b
theorem Kx.Ok.sized {C : Kx} (h : C.Ok) : Sized C.vs := ⟨by have := h.vl; omega, fun x hx => by have := h.sz x hx; omega⟩
def Un (w0 : World) (inp : List Int) (rd : Nat) (u : Value) : Prop :=
 ∃ a c, u = .slice a (inp.length - rd) c ∧ inp.length - rd ≤ c ∧ rd ≤ inp.length ∧ (rd < inp.length → ∃ g q, a = some ⟨g, q + rd, none⟩ ∧ g < w0.heap.size ∧ w0.rangeAt g q (lgs inp))
def ruC (C : Kx) (n : Nat) (u o : Value) : List Value := [.int .i64 (n : Nat), .int .i64 (C.fuel : Nat), C.vv, C.bv, u, C.cv, o]
structure Ru (C : Kx) (w : World) (u o : Value) (s : Es) : Prop where
 kp : Keep [] C.w0 w
 bk : Blk w C.b (ruC C s.n u o) tRu
 un : Un C.w0 C.inp s.read u
 rc : RowL w C.w0.heap.size C.cv s.cells
 ro : RowL w C.w0.heap.size o s.out
 ap : Apt C.cv o
 cl : (s.cells.length : Int) = sumV C.vs
 le : s.n ≤ C.fuel
 ol : s.out.length ≤ s.n
def Rt (C : Kx) (w : World) (s : Es) : Prop := ∃ u o, Ru C w u o s
section
variable {C : Kx} {w w1 w2 : World} {u o : Value} {s : Es}
theorem Ru.keep0 (h : Ru C w u o s) (hk : Keep [] w w1) : Ru C w1 u o s :=
 ⟨h.kp.tr hk, hk.blk h.bk (by simp), h.un, h.rc.keep hk (by simp), h.ro.keep hk (by simp), h.ap, h.cl, h.le, h.ol⟩
theorem Rt.keep0 (h : Rt C w s) (hk : Keep [] w w1) : Rt C w1 s := let ⟨u, o, h⟩ := h; ⟨u, o, h.keep0 hk⟩
theorem Rt.kp (h : Rt C w s) : Keep [] C.w0 w := let ⟨_, _, h⟩ := h; h.kp
theorem Rt.le (h : Rt C w s) : s.n ≤ C.fuel := let ⟨_, _, h⟩ := h; h.le
theorem Ru.put (hC : C.Ok) (h : Ru C w u o s) (hk : Keep [C.b] w w1) {u' : Value} {n rd : Nat} (hb : Blk w1 C.b (ruC C n u' o) tRu) (hu : Un C.w0 C.inp rd u') (hn : n ≤ C.fuel) (hn2 : s.n ≤ n) : Ru C w1 u' o { s with n := n, read := rd } ∧ Rf w w1 :=
 ⟨⟨h.kp.trB hk hC.ge, hb, hu, h.rc.keep hk (h.rc.ne h.bk neRuL), h.ro.keep hk (h.ro.ne h.bk neRuL), h.ap, h.cl, hn, Nat.le_trans h.ol hn2⟩, Rf.of hk fun k hm => ⟨ruC C s.n u o, tRu, by rw [List.mem_singleton.1 hm]; exact h.bk, .inl rfl⟩⟩
theorem Ru.set (h : Ru C w u o s) {j : Nat} (hj : j < s.cells.length) {g cap : Nat} (hv : C.cv = .slice (some ⟨g, 0, none⟩) s.cells.length cap) : ∃ cur, Blk w g cur tLg ∧ j < cur.length ∧ ∀ {w' : World} {n : Int}, Keep [g] w w' → Blk w' g (splice cur j [.int .i64 n]) tLg → Ru C w' u o { s with cells := s.cells.set j n } ∧ Rf w w' := by
 obtain ⟨cur, h1, h2, h3⟩ := h.rc.set hj hv
 refine ⟨cur, h1, h2, fun {w' n} hk hb => ⟨⟨?_, hk.blk h.bk ?_, h.un, h3 hb, ?_, h.ap, by rw [List.length_set]; exact h.cl, h.le, h.ol⟩, Rf.of hk fun k hm => ⟨cur, tLg, by rw [List.mem_singleton.1 hm]; exact h1, .inr rfl⟩⟩⟩
 ·refine h.kp.trans hk fun k hm => .inr ?_
  rw [List.mem_singleton.1 hm]
  exact (h.rc.lt g (by rw [hv]; simp [obs, Value.ownBlock])).1
 ·simp only [List.mem_singleton]
  exact Blk.ne h.bk h1 neRuL
 ·refine h.ro.keep hk fun k hk' hm => ?_
  rw [List.mem_singleton.1 hm] at hk'
  exact h.ap g (by rw [hv]; simp [obs, Value.ownBlock]) hk'
end
def Gos {α : Type} (C : Kx) (f : Nat) (args : List Value) (w : World) (X : Ex α) (K : α → Value → World → Prop) : Prop :=
 End Tryz.prog f args w (fun r w' => ∃ a, X = .ok a ∧ K a r w' ∧ Rf w w') (fun v w' => ∃ e, X = .error e ∧ v = gvI e.1 ∧ Rt C w' e.2 ∧ Rf w w')
theorem gos_step {α β : Type} {C : Kx} {g : Nat} {args : List Value} {w w1 : World} {Y : Ex α} {T : Ex β} {k : α → Ex β} {K : α → Value → World → Prop} {KK : Value → World → Prop} (h : Gos C g args w1 Y K) (hX : T = bndX Y k) (hR : Rf w w1)
  (hk : ∀ a r w', T = k a → K a r w' → Rf w1 w' → Rf w w' → KK r w') : End Tryz.prog g args w1 KK (fun v w' => ∃ e, T = .error e ∧ v = gvI e.1 ∧ Rt C w' e.2 ∧ Rf w w') := by
 refine End.mono h ?_ ?_
 ·rintro r w' ⟨a, rfl, h1, h2⟩
  exact hk a r w' hX h1 h2 (hR.tr h2)
 ·rintro v w' ⟨e, rfl, h1, h2, h3⟩
  exact ⟨e, hX, h1, h2, hR.tr h3⟩
theorem bnd_id {α : Type} (X : Ex α) : X = bndX X Except.ok := by cases X <;> rfl
section
variable {C : Kx} {w : World} {u o : Value} {s : Es}
theorem iCount_end (hC : C.Ok) (h : Rt C w s) : Gos C 178 [.pointer (some ⟨C.b, 0, none⟩)] w (tick C.fuel s) fun s2 r w' => r = .tuple #[] ∧ s2 = { s with n := s.n + 1 } ∧ Rt C w' s2 := by
 obtain ⟨u, o, h⟩ := h
 have hle := h.le
 have hfu := hC.fu
 refine end_of 19 Tryz.func178 rfl rfl (by simp) ?_
 refine auj ?_
 refine rn_seq ?_
 refine rn_seq ?_
 refine rn_draw (fun w' => Keep [] w w') [] hMix ?_
 have hS : Keep [] w w.drew := (Keep.refl _ _).drew
 generalize w.drew = w2 at *
 refine tk 0 ?_
 refine tk 1 ?_
 refine tk 2 ?_
 refine dr_val 3 (.int .i64 (s.n : Nat)) rfl (by decide +kernel) rfl rfl (fun w9 hS9 => val_load1 hT rfl rfl rfl ((hS9.blk h.bk (by simp)).cell rfl)) hS ?_
 refine tk 4 ?_
 refine tk 5 ?_
 refine tk 6 ?_
 refine dr_val 7 (.int .i64 (C.fuel : Nat)) rfl (by decide +kernel) rfl rfl (fun w9 hS9 => val_load1 hT rfl rfl rfl ((hS9.blk h.bk (by simp)).cell rfl)) hS ?_
 have h2 := h.keep0 hS
 by_cases hlt : s.n < C.fuel
 ·have hX : tick C.fuel s = .ok { s with n := s.n + 1 } := by unfold tick; rw [if_pos hlt]
  refine dno 8 ?_
  refine dr_done (by decide +kernel) ?_
  refine lB h2.bk ?_
  refine nM ((s.n + 1 : Nat) : Int) ?_
  refine au ?_
  refine pl_op rfl rfl (opTo_storeN [.int .i64 ((s.n + 1 : Nat) : Int)] rfl rfl rfl rfl size_rn h2.bk (by simp [ruC]) (one_in _) ?_)
  intro w3 hs3 hk3 hb3
  refine au ?_
  obtain ⟨h3, hR3⟩ := h2.put hC hk3 (n := s.n + 1) (rd := s.read) hb3 h2.un (by omega) (by omega)
  exact rn_end Tryz.func178 (.inr (.inl ⟨rfl, rfl⟩)) ⟨_, hX, ⟨rfl, rfl, u, o, h3⟩, (Rf.of0 hS).tr hR3⟩
 ·have hX : tick C.fuel s = .error (13, s) := by unfold tick; rw [if_neg hlt]
  refine dye 8 ?_
  refine dr_done (by decide +kernel) ?_
  refine au ?_
  refine pl_opE Tryz.func178 rfl rfl (opE_call (fst := []) (cap := []) rfl rfl rfl rfl (by decide +kernel) ((iGiveUp_end 13 _).mono ?_ ?_))
  ·intro v w' hf
   exact hf.elim
  ·rintro v w' ⟨rfl, rfl⟩
   exact ⟨_, hX, rfl, ⟨u, o, h2⟩, Rf.of0 hS⟩
def readX (inp : List Int) (s : Es) : Ex (Int × Es) := if s.read < inp.length then .ok (inp.getD s.read 0, { s with read := s.read + 1 }) else .error (12, s)
theorem iRead_end (hC : C.Ok) (h : Rt C w s) : Gos C 235 [.pointer (some ⟨C.b, 0, none⟩)] w (readX C.inp s) fun a r w' => r = .int .i64 a.1 ∧ a.2 = { s with read := s.read + 1 } ∧ Rt C w' a.2 := by
 obtain ⟨u, o, h⟩ := h
 have hil := hC.il
 obtain ⟨a, c, rfl, hc, hrl, hat⟩ := h.un
 refine end_of 26 Tryz.func235 rfl rfl (by simp) ?_
 refine lB h.bk ?_
 refine au ?_
 by_cases hlt : s.read < C.inp.length
 ·have hX : readX C.inp s = .ok (C.inp.getD s.read 0, { s with read := s.read + 1 }) := by unfold readX; rw [if_pos hlt]
  obtain ⟨g, q, rfl, hg, hra⟩ := hat hlt
  clear hat
  refine nay ?_
  refine lB h.bk ?_
  refine pl_val _ rfl rfl (val_index 0 hT rfl rfl rfl rfl rfl (by omega) w) ?_
  have hget : C.inp[s.read]? = some (C.inp.getD s.read 0) := by rw [List.getD_eq_getElem?_getD, List.getElem?_eq_getElem hlt]; rfl
  have hcell : w.cell? ⟨g, q + s.read, none⟩ = some (.int .i64 (C.inp.getD s.read 0)) := range_keep hra h.kp hg (by simp) s.read _ (lgs_at hget)
  refine pl_val _ rfl rfl (val_load1 hT rfl rfl rfl (hcell)) ?_
  refine lB h.bk ?_
  refine pl_val _ rfl rfl (val_rest hT rfl rfl rfl rfl rfl (by omega) w) ?_
  refine au ?_
  refine pl_op rfl rfl (opTo_storeN [.slice (if c = 1 then some ⟨g, q + s.read, none⟩ else some ⟨g, q + s.read + 1, none⟩) (C.inp.length - s.read - 1) (c - 1)] rfl rfl rfl rfl size_rs h.bk (by simp [ruC]) (one_v rfl) ?_)
  intro w3 hs3 hk3 hb3
  refine au ?_
  have hu : Un C.w0 C.inp (s.read + 1) (.slice (if c = 1 then some ⟨g, q + s.read, none⟩ else some ⟨g, q + s.read + 1, none⟩) (C.inp.length - s.read - 1) (c - 1)) :=
   ⟨if c = 1 then some ⟨g, q + s.read, none⟩ else some ⟨g, q + s.read + 1, none⟩, c - 1, by rw [show C.inp.length - (s.read + 1) = C.inp.length - s.read - 1 by omega], by omega, by omega, fun h1 => ⟨g, q, by rw [if_neg (by omega)]; rfl, hg, hra⟩⟩
  obtain ⟨h3, hR3⟩ := h.put hC hk3 (n := s.n) (rd := s.read + 1) hb3 hu h.le (Nat.le_refl _)
  exact rn_ret Tryz.func235 (.inl ⟨_, rfl, rfl⟩) ⟨_, hX, ⟨rfl, rfl, _, o, h3⟩, hR3⟩
 ·have hX : readX C.inp s = .error (12, s) := by unfold readX; rw [if_neg hlt]
  refine ye ?_
  refine au ?_
  refine pl_opE Tryz.func235 rfl rfl (opE_call (fst := []) (cap := []) rfl rfl rfl rfl (by decide +kernel) ((iGiveUp_end 12 _).mono ?_ ?_))
  ·intro v w' hf
   exact hf.elim
  ·rintro v w' ⟨rfl, rfl⟩
   exact ⟨_, hX, rfl, ⟨_, o, h⟩, Rf.refl _⟩
end
end
section
open Go.Proofs
theorem sizeV_at {vs : List VarT} {k : Nat} (hk : k < vs.length) : sizeV vs ((k : Nat) : Int) = vs[k].2 := by
 unfold sizeV
 rw [Int.toNat_natCast, List.getD_eq_getElem?_getD, List.getElem?_eq_getElem hk]
 rfl
theorem rcell_in {vs : List VarT} (hz : ∀ x ∈ vs, 1 ≤ x.2 ∧ x.2 ≤ 48) {v n : Int} (hv0 : 0 ≤ v) (hvl : v.toNat < vs.length) (_ : 0 ≤ n) (hn : n < sizeV vs v) : 0 ≤ cellOf vs v ∧ cellOf vs v + n < sumV vs := by
 obtain ⟨k, rfl⟩ : ∃ k : Nat, v = (k : Nat) := ⟨v.toNat, by omega⟩
 rw [Int.toNat_natCast] at hvl
 rw [sizeV_at hvl] at hn
 have h1 := sumV_take_succ (List.getElem?_eq_getElem hvl)
 have h2 := sumV_take_le hz (show k + 1 ≤ vs.length by omega)
 have h3 := sumV_take_le hz (Nat.zero_le k)
 rw [List.take_length] at h2
 have e : cellOf vs ((k : Nat) : Int) = sumV (vs.take k) := by unfold cellOf; rw [Int.toNat_natCast]
 rw [e]
 have h4 : sumV (vs.take 0) = 0 := by simp [sumV]
 omega
theorem size_pos {vs : List VarT} (hz : ∀ x ∈ vs, 1 ≤ x.2 ∧ x.2 ≤ 48) {v : Int} (hv0 : 0 ≤ v) (hvl : v.toNat < vs.length) : 1 ≤ sizeV vs v ∧ sizeV vs v ≤ 48 := by
 obtain ⟨k, rfl⟩ : ∃ k : Nat, v = (k : Nat) := ⟨v.toNat, by omega⟩
 rw [Int.toNat_natCast] at hvl
 rw [sizeV_at hvl]
 exact hz _ (List.getElem_mem _)
section
variable {C : Kx} {w : World} {u o : Value} {s : Es}
theorem iCell_end (hC : C.Ok) (h : Ru C w u o s) (v n : Int) (hv0 : 0 ≤ v) (hvl : v.toNat < C.vs.length) : End Tryz.prog 234 [.pointer (some ⟨C.b, 0, none⟩), .int .i64 v, .int .i64 n] w
  (fun r w' => (0 ≤ n ∧ n < sizeV C.vs v) ∧ (cellOf C.vs v + n).toNat < s.cells.length ∧ (∃ g cap, C.cv = .slice (some ⟨g, 0, none⟩) s.cells.length cap ∧ r = .pointer (some ⟨g, (cellOf C.vs v + n).toNat, none⟩)) ∧ Keep [] w w')
  (fun x w' => ¬ (0 ≤ n ∧ n < sizeV C.vs v) ∧ x = gvI 11 ∧ Keep [] w w') := by
 have hsz := size_pos hC.sz hv0 hvl
 have hin := rcell_in hC.sz hv0 hvl (n := n)
 have hsum := hC.sum
 have hcl := h.cl
 have hpr := hC.pr
 obtain ⟨vv', bv', hpe, hvv, hbb⟩ := hpr
 injection hpe with hpe
 have hpe2 := congrArg Array.toList hpe
 simp only [List.cons.injEq, and_true] at hpe2
 obtain ⟨hpe1, hpe2⟩ := hpe2
 rw [← hpe1] at hvv
 have hk : v = ((v.toNat : Nat) : Int) := by omega
 have hsv := sizeV_at hvl
 rw [← hk] at hsv
 have hxv : C.vs[v.toNat]? = some C.vs[v.toNat] := List.getElem?_eq_getElem hvl
 obtain ⟨vb, vq, vc, hve, hFv, hrv⟩ := hvv.at hxv
 refine end_of 36 Tryz.func234 rfl rfl (by simp) ?_
 refine au ?_
 by_cases hneg : n < 0
 ·refine ye ?_
  refine au ?_
  refine pl_opE Tryz.func234 rfl rfl (opE_call (fst := []) (cap := []) rfl rfl rfl rfl (by decide +kernel) ((iGiveUp_end 11 _).mono ?_ ?_))
  ·intro v w' hf
   exact hf.elim
  ·rintro v w' ⟨rfl, rfl⟩
   exact ⟨by omega, rfl, Keep.refl _ _⟩
 ·refine nay ?_
  refine au ?_
  refine pl_val (.slice (some ⟨vb, vq, none⟩) C.vs.length vc) rfl rfl (val_load1 hT rfl rfl rfl (h.bk.cell (by rw [← hve]; rfl))) ?_
  refine au ?_
  refine pl_val _ rfl rfl (val_index v.toNat hT rfl rfl rfl rfl hk hvl w) ?_
  refine au ?_
  refine pl_val _ rfl rfl (val_load1 hT rfl rfl rfl ((range_keep hrv h.kp (hC.hF _ hFv) (by simp)) 1 (.int .i64 C.vs[v.toNat].2) rfl)) ?_
  by_cases hge : n < sizeV C.vs v
  ·obtain ⟨hi1, hi2⟩ := hin (by omega) hge
   rw [hsv] at hge
   refine nay ?_
   refine au ?_
   obtain ⟨j, hj⟩ : ∃ j : Nat, j = (cellOf C.vs v + n).toNat := ⟨_, rfl⟩
   have hjl : j < s.cells.length := by omega
   obtain ⟨g, cap, hcv, hglt, hgr⟩ := h.rc.at2 (List.getElem?_eq_getElem hjl)
   refine rn_draw (fun w' => Keep [] w w') [] hMix ?_
   have hS : Keep [] w w.drew := (Keep.refl _ _).drew
   generalize w.drew = w2 at *
   refine tk 0 ?_
   refine tk 1 ?_
   refine tk 2 ?_
   refine dr_val 3 (.slice (some ⟨g, 0, none⟩) s.cells.length cap) rfl (by decide +kernel) rfl rfl (fun w9 hS9 => val_load1 hT rfl rfl rfl ((hS9.blk h.bk (by simp)).cell (by rw [← hcv]; rfl))) hS ?_
   refine tk 4 ?_
   refine tk 5 ?_
   refine tk 6 ?_
   refine dr_val 7 (.agg #[C.vv, C.bv]) rfl (by decide +kernel) rfl rfl (fun w9 hS9 => val_load [C.vv, C.bv] hT rfl rfl rfl ((hS9.blk h.bk (by simp)).range (by rfl))) hS ?_
   refine tk 8 ?_
   refine tk 10 ?_
   refine dC 9 (cell_ret (hC.pr.keep (h.kp.tr hS) hC.hF.stays) (hC.hF.keep (h.kp.tr hS)) hC.sized v) ?_
   rintro r w3 ⟨rfl, hk3⟩
   refine ⟨fun _ => hS.tr hk3, ?_⟩
   refine dr_num 11 ((j : Nat)) rfl (by decide +kernel) rfl rfl rfl rfl rfl (by simp only [ariP]; omega) ?_
   refine dr_any 12 _ rfl (by decide +kernel) rfl rfl (fun w => val_index j hT rfl rfl rfl rfl rfl hjl w) ?_
   refine tk 13 ?_
   refine dr_done (by decide +kernel) ?_
   refine au ?_
   refine rn_ret Tryz.func234 (.inl ⟨_, rfl, rfl⟩) ⟨⟨by omega, by rw [hsv]; exact hge⟩, by omega, ⟨g, cap, hcv, ?_⟩, hS.tr hk3⟩
   rw [← hj, Nat.zero_add, Nat.mul_one]
  ·have hge' := hge
   rw [hsv] at hge
   refine ye ?_
   refine au ?_
   refine pl_opE Tryz.func234 rfl rfl (opE_call (fst := []) (cap := []) rfl rfl rfl rfl (by decide +kernel) ((iGiveUp_end 11 _).mono ?_ ?_))
   ·intro v w' hf
    exact hf.elim
   ·rintro v w' ⟨rfl, rfl⟩
    exact ⟨fun h => hge' h.2, rfl, Keep.refl _ _⟩
end
end
section
open Go.Proofs
mutual
def rnE (nv : Nat) : ET → Prop
 | .mk op v _ l => 1 ≤ op ∧ op ≤ 8 ∧ l.length ≤ 2 ∧ (op = 2 ∨ op = 3 → 0 ≤ v ∧ v.toNat < nv) ∧ rnEs nv l
def rnEs (nv : Nat) : List ET → Prop
 | [] => True
 | t :: r => rnE nv t ∧ rnEs nv r
end
mutual
def rnS (nv : Nat) : ST → Prop
 | .mk op v e f b o => 1 ≤ op ∧ op ≤ 7 ∧ (needV op = true → 0 ≤ v ∧ v.toNat < nv) ∧ (needE op = true → rnE nv e) ∧ (needF op = true → rnE nv f) ∧ rnSs nv b ∧ rnSs nv o
def rnSs (nv : Nat) : List ST → Prop
 | [] => True
 | t :: r => rnS nv t ∧ rnSs nv r
end
theorem rnEs_at {nv : Nat} : ∀ {l : List ET} {i : Nat} {t : ET}, rnEs nv l → l[i]? = some t → rnE nv t
 | [], _, _, _, h => by simp at h
 | x :: r, 0, t, h, e => by simp at e; subst e; exact h.1
 | x :: r, i + 1, t, h, e => by simp at e; exact rnEs_at h.2 e
theorem rnSs_at {nv : Nat} : ∀ {l : List ST} {i : Nat} {t : ST}, rnSs nv l → l[i]? = some t → rnS nv t
 | [], _, _, _, h => by simp at h
 | x :: r, 0, t, h, e => by simp at e; subst e; exact h.1
 | x :: r, i + 1, t, h, e => by simp at e; exact rnSs_at h.2 e
theorem partsOf_le (op : Int) : partsOf op ≤ 2 := by
 unfold partsOf
 split
 ·omega
 ·split
  ·omega
  ·split <;> omega
mutual
theorem chkE_rn {nv : Nat} : ∀ (t : ET) {d k k' : Nat}, chkE nv t d k = .ok k' → rnE nv t
 | .mk op v n l, d, k, k', h => by
  obtain ⟨_, h1, k1, h2⟩ := chkE_inv h
  obtain ⟨a, b, c, _, e, _⟩ := ownE_inv h1
  have := partsOf_le op
  exact ⟨a, b, by omega, e, chkEs_rn l h2⟩
theorem chkEs_rn {nv : Nat} : ∀ (l : List ET) {d k k' : Nat}, chkEs nv l d k = .ok k' → rnEs nv l
 | [], _, _, _, _ => trivial
 | t :: r, d, k, k', h => by
  obtain ⟨⟨k1, h1⟩, k2, h2⟩ := chkEs_inv h
  exact ⟨chkE_rn t h1, chkEs_rn r h2⟩
end
mutual
theorem chkS_rn {nv : Nat} : ∀ (t : ST) {d k k' : Nat}, chkS nv t d k = .ok k' → rnS nv t
 | .mk op v e f b o, d, k, k', h => by
  obtain ⟨_, h1, h2, h3, ⟨k1, k2, h4⟩, k3, k4, h5⟩ := chkS_inv h
  obtain ⟨a, a', _, _, _, _, c, _⟩ := ownS_inv h1
  exact ⟨a, a', c, fun hn => (let ⟨_, _, hc⟩ := h2 hn; chkE_rn e hc), fun hn => (let ⟨_, _, hc⟩ := h3 hn; chkE_rn f hc), chkSs_rn b h4, chkSs_rn o h5⟩
theorem chkSs_rn {nv : Nat} : ∀ (l : List ST) {d k k' : Nat}, chkSs nv l d k = .ok k' → rnSs nv l
 | [], _, _, _, _ => trivial
 | t :: r, d, k, k', h => by
  obtain ⟨⟨k1, h1⟩, k2, h2⟩ := chkSs_inv h
  exact ⟨chkS_rn t h1, chkSs_rn r h2⟩
end
theorem bnd_assoc {α β γ : Type} (x : Ex α) (f : α → Ex β) (g : β → Ex γ) : bndX (bndX x f) g = bndX x fun a => bndX (f a) g := by cases x <;> rfl
theorem cellAt_of {l : List Int} {k : Int} (h : k.toNat < l.length) : l[k.toNat]? = some (cellAt l k) := by
 unfold cellAt
 rw [List.getD_eq_getElem?_getD, List.getElem?_eq_getElem h]
 rfl
theorem Rf.trB {w w' w'' : World} {k : Nat} (h : Rf w w') (hk : Keep [k] w' w'') (hge : w.heap.size ≤ k) : Rf w w'' :=
 ⟨Nat.le_trans h.size hk.size, fun hb h1 h2 => hk.blk (h.blk hb h1 h2) (by simp only [List.mem_singleton]; have := hb.lt; omega)⟩
def pts (xs : List Int) : List Value := [.int .i64 (xs.getD 0 0), .int .i64 (xs.getD 1 0)]
theorem pts_put {xs : List Int} {i : Nat} (hi : xs.length = i) (h2 : i < 2) (y : Int) : splice (pts xs) (0 + i * 1) [.int .i64 y] = pts (xs ++ [y]) := by
 match xs, hi, h2 with
 | [], rfl, _ => rfl
 | [x], rfl, _ => rfl
 | x :: z :: r, rfl, h => simp at h; omega
theorem zero_pt : ((Tryz.prog.info? 307).bind (·.zero)).map (·.cells) = some (pts []).toArray := by kernel_rfl
theorem zero_ie : ((Tryz.prog.info? 141).bind (·.zero)).map (·.cells) = some [Value.int .i64 0, .int .i64 0, .int .i64 0, .slice none 0 0].toArray := by kernel_rfl
theorem size_ie : sizeOk Tryz.prog 141 4 = true := by kernel_rfl
theorem neERu : 141 ≠ tRu := by decide
theorem neELg : 141 ≠ tLg := by decide
theorem nePRu : 307 ≠ tRu := by decide
theorem nePLg : 307 ≠ tLg := by decide
def ExI (C : Kx) (z : Nat) : Prop := ∀ (t : ET), szE t < z → rnE C.vs.length t → ∀ {w : World} {cs : List Value} {s : Es}, ExprV C.F C.w0 cs t → Rt C w s →
  Gos C 260 [.pointer (some ⟨C.b, 0, none⟩), .agg cs.toArray] w (evE C.vs C.fuel t s) fun a r w' => r = .int .i64 a.1 ∧ s.n ≤ a.2.n ∧ Rt C w' a.2
theorem iexpr_end {C : Kx} (hC : C.Ok) : ∀ (z : Nat), ExI C z := by
 intro z
 induction z with
 | zero => intro t ht; omega
 | succ z ihs =>
  intro t ht hrn w cs s hX h
  obtain ⟨op, v, n, l⟩ := t
  obtain ⟨lv, rfl, hE⟩ := hX.inv
  obtain ⟨a, cap, rfl⟩ := hE.form
  obtain ⟨ho1, ho8, hl2, hvr, hrl⟩ := hrn
  simp only [szE] at ht
  obtain ⟨TOT, hT0⟩ : ∃ TOT, TOT = evE C.vs C.fuel (.mk op v n l) s := ⟨_, rfl⟩
  rw [← hT0]
  have hT1 : TOT = bndX (evEs C.vs C.fuel (l.drop 0) s) fun c => bndX (tick C.fuel c.2) fun s2 => sayE C.vs op v n ([] ++ c.1) s2 := by
   rw [hT0]
   rfl
  clear hT0
  refine end_of 80 Tryz.func260 rfl rfl (by simp) ?_
  refine au ?_
  refine pl_op rfl rfl (opTo_boxN [.int .i64 op, .int .i64 v, .int .i64 n, .slice a l.length cap] rfl rfl rfl ?_)
  intro w1 x3 hx3 hs1 hk1 hX1
  refine au ?_
  refine pl_op rfl rfl (opTo_allocN _ rfl zero_pt ?_)
  intro w2 x5 hx5 hs2 hk2 hP2
  have hk02 := hk1.tr hk2
  have h2 := h.keep0 hk02
  have hX2 := hk2.blk hX1 (by simp)
  have hR2 : Rf w w2 := Rf.of0 hk02
  refine lB hX2 ?_
  refine au ?_
  refine rn_ind (fun m σ w' => ∃ (i : Nat) (xs : List Int) (s' : Es), i ≤ l.length ∧ m = l.length - i ∧ xs.length = i ∧ σ = [(0, .pointer (some ⟨C.b, 0, none⟩)), (3, .pointer (some ⟨x3, 0, none⟩)), (5, .pointer (some ⟨x5, 0, none⟩)), (11, .slice a l.length cap), (12, .int .i64 (l.length : Nat)), (13, .int .i64 (i : Nat))] ∧
   TOT = bndX (evEs C.vs C.fuel (l.drop i) s') (fun c => bndX (tick C.fuel c.2) fun s2 => sayE C.vs op v n (xs ++ c.1) s2) ∧ Rt C w' s' ∧ s.n ≤ s'.n ∧ Rf w w' ∧ Blk w' x3 [.int .i64 op, .int .i64 v, .int .i64 n, .slice a l.length cap] 141 ∧ Blk w' x5 (pts xs) 307)
   l.length _ ?_ ⟨0, [], s, by omega, by omega, rfl, rfl, hT1, h2, Nat.le_refl _, hR2, hX2, hP2⟩ ?_
  ·exact ⟨rfl, rfl, rfl, rfl, rfl, rfl, trivial⟩
  rintro m σ w6 ih ⟨i, xs, s', hi, rfl, hxs, rfl, hT6, h6, hn6, hR6, hX6, hP6⟩
  refine au ?_
  by_cases hlt : i < l.length
  ·refine ye ?_
   have hxi : l[i]? = some l[i] := List.getElem?_eq_getElem hlt
   obtain ⟨b1, q1, c1, ci, hv1, hF1, hr1, hc1⟩ := hE.at hxi
   cases hv1
   have hszi := szEs_succ hxi
   have hszt := szEs_take l (i + 1)
   have hT7 : TOT = bndX (evE C.vs C.fuel l[i] s') fun y => bndX (evEs C.vs C.fuel (l.drop (i + 1)) y.2) fun c => bndX (tick C.fuel c.2) fun s2 => sayE C.vs op v n ((xs ++ [y.1]) ++ c.1) s2 := by
    rw [hT6, List.drop_eq_getElem_cons hlt]
    simp only [evEs]
    rw [bnd_assoc]
    congr 1
    funext y
    rw [bnd_assoc]
    congr 1
    funext c
    show bndX (tick C.fuel c.2) (fun s2 => sayE C.vs op v n (xs ++ y.1 :: c.1) s2) = _
    rw [show xs ++ y.1 :: c.1 = xs ++ [y.1] ++ c.1 by simp]
   refine au ?_
   refine pl_val _ rfl rfl (val_index i hT rfl rfl rfl rfl rfl hlt w6) ?_
   refine pl_val (.agg ci.toArray) rfl rfl (val_load ci hT rfl rfl (by rw [hc1.length]; rfl) (range_keep hr1 h6.kp (hC.hF _ hF1) (by simp))) ?_
   refine pl_op rfl rfl (opTo_allocN _ rfl zero_ie ?_)
   intro w7 x7 hx7 hs7 hk7 hb7
   refine au ?_
   refine pl_op rfl rfl (opTo_storeN ci rfl rfl rfl rfl (by rw [hc1.length]; exact size_ie) hb7 (by rw [hc1.length]; simp) hc1.one ?_)
   intro w8 hs8 hk8 hb8
   rw [splice_whole (by rw [hc1.length]; rfl)] at hb8
   have hk68 : Keep [] w6 w8 := hk7.trB hk8 (by omega)
   refine au ?_
   refine pl_val (.agg ci.toArray) rfl rfl (val_load ci hT rfl rfl (by rw [hc1.length]; rfl) (hb8.range (by simp))) ?_
   refine pl_opE Tryz.func260 rfl rfl (opE_call (fst := []) (cap := []) rfl rfl rfl rfl (by decide +kernel) (gos_step (ihs l[i] (by omega) (rnEs_at hrl hxi) hc1 (h6.keep0 hk68)) hT7 (hR6.tr (Rf.of0 hk68)) ?_))
   rintro ⟨y, s9⟩ r w9 hT9 ⟨rfl, hn9, h9⟩ hQ9 hR9
   have hX9 := hQ9.blk (hk68.blk hX6 (by simp)) neERu neELg
   have hP9 := hQ9.blk (hk68.blk hP6 (by simp)) nePRu nePLg
   have hge5 : w.heap.size ≤ x5 := by have := hk1.size; omega
   refine pl_val _ rfl rfl (val_indexArr i hT rfl rfl rfl rfl rfl (by omega) w9) ?_
   refine pl_op rfl rfl (opTo_storeN [.int .i64 y] rfl rfl rfl rfl size_rl hP9 (by simp [pts]; omega) (one_in _) ?_)
   intro w10 hs10 hk10 hb10
   rw [pts_put hxs (by omega)] at hb10
   refine nM ((i + 1 : Nat) : Int) ?_
   refine au ?_
   have h10 : Rt C w10 s9 := by
    obtain ⟨u, o, h9⟩ := h9
    refine ⟨u, o, h9.kp.trB hk10 (by have := h.kp.size; omega), hk10.blk h9.bk ?_, h9.un, h9.rc.keep hk10 (h9.rc.ne hP9 nePLg), h9.ro.keep hk10 (h9.ro.ne hP9 nePLg), h9.ap, h9.cl, h9.le, h9.ol⟩
    simp only [List.mem_singleton]
    exact Blk.ne h9.bk hP9 nePRu.symm
   have hX10 := hk10.blk hX9 (by simp only [List.mem_singleton]; exact Blk.ne hX9 hP9 (by decide))
   refine rn_sub ?_ (ih (l.length - (i + 1)) [(0, .pointer (some ⟨C.b, 0, none⟩)), (3, .pointer (some ⟨x3, 0, none⟩)), (5, .pointer (some ⟨x5, 0, none⟩)), (11, .slice (some ⟨b1, q1, none⟩) l.length cap), (12, .int .i64 (l.length : Nat)), (13, .int .i64 ((i + 1 : Nat) : Int))] w10 (by omega) ⟨i + 1, xs ++ [y], s9, by omega, rfl, by simp [hxs], rfl, hT9, h10, by dsimp only at hn9; omega, hR9.trB hk10 hge5, hX10, hb10⟩)
   exact ⟨rfl, rfl, rfl, rfl, rfl, rfl, trivial⟩
  ·refine nay ?_
   rw [List.drop_of_length_le (by omega)] at hT6
   have hT7 : TOT = bndX (tick C.fuel s') fun s2 => sayE C.vs op v n xs s2 := by
    rw [hT6]
    show bndX (tick C.fuel s') (fun s2 => sayE C.vs op v n (xs ++ []) s2) = _
    rw [List.append_nil]
   clear hT6
   refine au ?_
   refine pl_opE Tryz.func260 rfl rfl (opE_call (fst := []) (cap := []) rfl rfl rfl rfl (by decide +kernel) (gos_step (iCount_end hC h6) hT7 hR6 ?_))
   rintro s8 r w8 hT8 ⟨rfl, hs8e, h8⟩ hQ8 hR8
   have hn8 : s.n ≤ s8.n := by rw [hs8e]; show s.n ≤ s'.n + 1; omega
   clear hs8e hT7
   have hX8 := hQ8.blk hX6 neERu neELg
   have hP8 := hQ8.blk hP6 nePRu nePLg
   refine au ?_
   refine rn_draw (fun w' => Keep [] w8 w') [] hMix ?_
   have hS : Keep [] w8 w8.drew := (Keep.refl _ _).drew
   generalize w8.drew = w9 at *
   refine dr_any 0 _ rfl (by decide +kernel) rfl rfl (fun w => val_indexArr 0 hT rfl rfl rfl rfl rfl (by omega) w) ?_
   refine dr_val 1 (.int .i64 (xs.getD 0 0)) rfl (by decide +kernel) rfl rfl (fun w9 hS9 => val_load1 hT rfl rfl rfl ((hS9.blk hP8 (by simp)).cell rfl)) hS ?_
   refine dr_any 2 _ rfl (by decide +kernel) rfl rfl (fun w => val_indexArr 1 hT rfl rfl rfl rfl rfl (by omega) w) ?_
   refine dr_val 3 (.int .i64 (xs.getD 1 0)) rfl (by decide +kernel) rfl rfl (fun w9 hS9 => val_load1 hT rfl rfl rfl ((hS9.blk hP8 (by simp)).cell rfl)) hS ?_
   refine tk 4 ?_
   refine tk 5 ?_
   refine dr_done (by decide +kernel) ?_
   replace h8 := h8.keep0 hS
   have hX9 := hS.blk hX8 (by simp)
   replace hR8 := hR8.tr (Rf.of0 hS)
   generalize hy0 : xs.getD 0 0 = y0 at *
   generalize hy1 : xs.getD 1 0 = y1 at *
   have hT9 := hT8
   unfold sayE at hT9
   rw [hy0, hy1] at hT9
   clear hT8
   refine lB hX9 ?_
   refine au ?_
   by_cases h1 : op = 1
   ·refine ye ?_
    rw [if_pos h1] at hT9
    refine lB hX9 ?_
    refine au ?_
    exact rn_ret Tryz.func260 (.inl ⟨_, rfl, rfl⟩) ⟨_, hT9, ⟨rfl, hn8, h8⟩, hR8⟩
   refine nay ?_
   refine au ?_
   rw [if_neg h1] at hT9
   by_cases h2 : op = 2
   ·obtain ⟨hv0, hvl⟩ := hvr (.inl h2)
    have hsz := size_pos hC.sz hv0 hvl
    refine ye ?_
    rw [if_pos h2] at hT9
    refine lB hX9 ?_
    obtain ⟨u, o, h8⟩ := h8
    refine pl_opE Tryz.func260 rfl rfl (opE_call (fst := []) (cap := []) rfl rfl rfl rfl (by decide +kernel) ((iCell_end hC h8 v 0 hv0 hvl).mono ?_ ?_))
    rotate_left
    ·rintro x w' ⟨hno, _⟩
     exfalso
     omega
    rintro r w10 ⟨_, hjl, ⟨g, cap, hcv, rfl⟩, hk10⟩
    have h10 := h8.keep0 hk10
    rw [Int.add_zero] at hjl ⊢
    obtain ⟨g', cap', hcv', hcell⟩ := h10.rc.at (cellAt_of hjl)
    have hgg : g = g' := by rw [hcv] at hcv'; injection hcv' with e1; injection e1 with e1; injection e1
    subst hgg
    refine au ?_
    refine pl_val _ rfl rfl (val_load1 hT rfl rfl rfl (hcell)) ?_
    refine au ?_
    exact rn_ret Tryz.func260 (.inl ⟨_, rfl, rfl⟩) ⟨_, hT9, ⟨rfl, hn8, u, o, h10⟩, hR8.tr (Rf.of0 hk10)⟩
   refine nay ?_
   refine au ?_
   rw [if_neg h2] at hT9
   by_cases h3 : op = 3
   ·obtain ⟨hv0, hvl⟩ := hvr (.inr h3)
    refine ye ?_
    rw [if_pos h3] at hT9
    refine lB hX9 ?_
    refine au ?_
    obtain ⟨u, o, h8⟩ := h8
    refine pl_opE Tryz.func260 rfl rfl (opE_call (fst := []) (cap := []) rfl rfl rfl rfl (by decide +kernel) ((iCell_end hC h8 v y0 hv0 hvl).mono ?_ ?_))
    rotate_left
    ·rintro x w' ⟨hno, rfl, hk10⟩
     rw [if_neg hno] at hT9
     exact ⟨_, hT9, rfl, ⟨u, o, h8.keep0 hk10⟩, hR8.tr (Rf.of0 hk10)⟩
    rintro r w10 ⟨hyes, hjl, ⟨g, cap, hcv, rfl⟩, hk10⟩
    rw [if_pos hyes] at hT9
    have h10 := h8.keep0 hk10
    obtain ⟨g', cap', hcv', hcell⟩ := h10.rc.at (cellAt_of hjl)
    have hgg : g = g' := by rw [hcv] at hcv'; injection hcv' with e1; injection e1 with e1; injection e1
    subst hgg
    refine au ?_
    refine pl_val _ rfl rfl (val_load1 hT rfl rfl rfl (hcell)) ?_
    refine au ?_
    exact rn_ret Tryz.func260 (.inl ⟨_, rfl, rfl⟩) ⟨_, hT9, ⟨rfl, hn8, u, o, h10⟩, hR8.tr (Rf.of0 hk10)⟩
   refine nay ?_
   refine au ?_
   rw [if_neg h3] at hT9
   unfold ariI at hT9
   by_cases h4 : op = 4
   ·refine ye ?_
    rw [if_pos h4] at hT9
    refine au ?_
    refine pl_val _ rfl rfl (val_int _ _ _ _ rfl rfl rfl (by rfl) _) ?_
    refine au ?_
    exact rn_ret Tryz.func260 (.inl ⟨_, rfl, rfl⟩) ⟨_, hT9, ⟨rfl, hn8, h8⟩, hR8⟩
   refine nay ?_
   refine au ?_
   rw [if_neg h4] at hT9
   by_cases h5 : op = 5
   ·refine ye ?_
    rw [if_pos h5] at hT9
    refine au ?_
    refine pl_val _ rfl rfl (val_int _ _ _ _ rfl rfl rfl (by rfl) _) ?_
    refine au ?_
    exact rn_ret Tryz.func260 (.inl ⟨_, rfl, rfl⟩) ⟨_, hT9, ⟨rfl, hn8, h8⟩, hR8⟩
   refine nay ?_
   refine au ?_
   rw [if_neg h5] at hT9
   by_cases h6' : op = 6
   ·refine ye ?_
    rw [if_pos h6'] at hT9
    refine au ?_
    refine pl_val _ rfl rfl (val_int _ _ _ _ rfl rfl rfl (by rfl) _) ?_
    refine au ?_
    exact rn_ret Tryz.func260 (.inl ⟨_, rfl, rfl⟩) ⟨_, hT9, ⟨rfl, hn8, h8⟩, hR8⟩
   refine nay ?_
   refine au ?_
   rw [if_neg h6'] at hT9
   by_cases h7 : op = 7
   ·refine ye ?_
    rw [if_pos h7] at hT9
    refine au ?_
    refine pl_val _ rfl rfl (val_int _ _ _ _ rfl rfl rfl (by rfl) _) ?_
    refine oC (iTruth_ret _ _) ?_
    rintro r w' ⟨rfl, rfl⟩
    refine au ?_
    exact rn_ret Tryz.func260 (.inl ⟨_, rfl, rfl⟩) ⟨_, hT9, ⟨rfl, hn8, h8⟩, hR8⟩
   refine nay ?_
   refine au ?_
   rw [if_neg h7] at hT9
   refine pl_val _ rfl rfl (val_int _ _ _ _ rfl rfl rfl (by rfl) _) ?_
   refine oC (iTruth_ret _ _) ?_
   rintro r w' ⟨rfl, rfl⟩
   refine au ?_
   exact rn_ret Tryz.func260 (.inl ⟨_, rfl, rfl⟩) ⟨_, hT9, ⟨rfl, hn8, h8⟩, hR8⟩
end
section
open Go.Proofs
def askX (C : Kx) (op : Int) (e f : ET) (s : Es) : Ex (Int × Int × Es) :=
 bndX (if needE op then evE C.vs C.fuel e s else .ok (0, s)) fun a => bndX (if needF op then evE C.vs C.fuel f a.2 else .ok (0, a.2)) fun c => .ok (a.1, c.1, c.2)
def chX (C : Kx) (x : Int) (b : List ST) (s : Es) : Ex (Bool × Es) :=
 if x = 0 then .ok (false, s) else bndX (evSs C.vs C.inp C.fuel b s) fun s3 => bndX (tick C.fuel s3) fun s4 => .ok (true, s4)
def doX (C : Kx) (op v x y : Int) (b o : List ST) (s : Es) : Ex (Bool × Es) :=
 if op = 5 then chX C x b s
 else if op = 6 then bndX (chX C x b s) fun c => if c.1 = true then .ok (false, c.2) else bndX (evSs C.vs C.inp C.fuel o c.2) fun s3 => .ok (false, s3)
 else bndX (sayS C.vs C.inp op v x y s) fun s3 => .ok (false, s3)
def agX (C : Kx) : ST → Es → Ex (Bool × Es)
 | .mk op v e f b o, s => bndX (askX C op e f s) fun a => bndX (tick C.fuel a.2.2) fun s2 => doX C op v a.1 a.2.1 b o s2
def loA (C : Kx) (t : ST) : Nat → Es → Ex Es
 | 0, s => .error (13, s)
 | g + 1, s => bndX (agX C t s) fun a => if a.1 = true then loA C t g a.2 else .ok a.2
theorem ask_one (C : Kx) {op : Int} (e f : ET) (s : Es) (h1 : needE op = true) (h2 : needF op = false) : askX C op e f s = bndX (evE C.vs C.fuel e s) fun a => .ok (a.1, 0, a.2) := by
 unfold askX
 rw [h1, h2]
 simp only [if_true, Bool.false_eq_true, if_false]
 cases evE C.vs C.fuel e s <;> rfl
theorem loop_loA (C : Kx) {op v : Int} {e f : ET} {b o : List ST} (h : op = 5) : ∀ (g : Nat) (s : Es), loopX C.fuel (evE C.vs C.fuel e) (evSs C.vs C.inp C.fuel b) g s = loA C (.mk op v e f b o) g s
 | 0, s => rfl
 | g + 1, s => by
  simp only [loopX, loA, agX]
  rw [ask_one C e f s (by rw [h]; rfl) (by rw [h]; rfl)]
  simp only [bnd_assoc]
  congr 1
  funext a
  show _ = bndX (tick C.fuel a.2) _
  congr 1
  funext s2
  unfold doX chX
  rw [if_pos h]
  by_cases h0 : a.1 = 0
  ·rw [if_pos h0, if_pos h0]
   rfl
  ·rw [if_neg h0, if_neg h0, bnd_assoc]
   congr 1
   funext s3
   rw [bnd_assoc]
   congr 1
   funext s4
   exact loop_loA C h g s4
theorem evS_once (C : Kx) {op v : Int} {e f : ET} {b o : List ST} (h : ¬ op = 5) (s : Es) : agX C (.mk op v e f b o) s = bndX (evS C.vs C.inp C.fuel (.mk op v e f b o) s) fun s1 => .ok (false, s1) := by
 simp only [agX, evS]
 rw [if_neg h]
 by_cases h6 : op = 6
 ·rw [ask_one C e f s (by rw [h6]; rfl) (by rw [h6]; rfl), if_pos h6]
  simp only [bnd_assoc]
  congr 1
  funext a
  show bndX (tick C.fuel a.2) _ = _
  congr 1
  funext s2
  unfold doX chX
  rw [if_neg h, if_pos h6]
  by_cases h0 : a.1 = 0
  ·rw [if_pos h0, if_pos h0]
   rfl
  ·rw [if_neg h0, if_neg h0, bnd_assoc, bnd_assoc]
   congr 1
   funext s3
   rw [bnd_assoc]
   rfl
 ·rw [if_neg h6]
  unfold askX
  simp only [bnd_assoc]
  congr 1
  funext a
  congr 1
  funext c
  show bndX (tick C.fuel c.2) _ = _
  congr 1
  funext s2
  unfold doX
  rw [if_neg h, if_neg h6]
theorem evS_loA (C : Kx) (t : ST) (s : Es) : evS C.vs C.inp C.fuel t s = loA C t (C.fuel + 1) s := by
 obtain ⟨op, v, e, f, b, o⟩ := t
 by_cases h : op = 5
 ·rw [← loop_loA C h]
  simp only [evS]
  rw [if_pos h]
 ·simp only [loA]
  rw [evS_once C h, bnd_assoc]
  exact bnd_id _
section
variable {C : Kx} {w w1 w2 : World} {u o : Value} {s : Es}
theorem Ru.print (hC : C.Ok) (h : Ru C w u o s) (hn : s.out.length + 1 ≤ s.n) {o' : Value} {n : Int} (hk1 : Keep (obs o) w w1) (hrow : RowL w1 C.w0.heap.size o' (s.out ++ [n])) (hob : ∀ x ∈ obs o', x ∈ obs o ∨ w.heap.size ≤ x) (hk : Keep [C.b] w1 w2) (hb : Blk w2 C.b (ruC C s.n u o') tRu) : Ru C w2 u o' { s with out := s.out ++ [n] } ∧ Rf w w2 := by
 have hbk1 := hk1.blk h.bk fun hm => h.ro.ne h.bk neRuL C.b hm (by simp)
 have hrc1 := h.rc.keep hk1 fun x hx hm => h.ap x hx hm
 refine ⟨⟨(h.kp.trans hk1 fun x hx => .inr (h.ro.lt x hx).1).trB hk hC.ge, hb, h.un, hrc1.keep hk (hrc1.ne hbk1 neRuL), hrow.keep hk (hrow.ne hbk1 neRuL), fun x hx hm => ?_, h.cl, h.le, by show (s.out ++ [n]).length ≤ s.n; simp; omega⟩, ?_⟩
 ·rcases hob x hm with h2 | h2
  ·exact h.ap x hx h2
  ·have := (h.rc.lt x hx).2; omega
 ·refine (Rf.of hk1 fun k hm => ?_).tr (Rf.of hk fun k hm => ⟨ruC C s.n u o, tRu, by rw [List.mem_singleton.1 hm]; exact hbk1, .inl rfl⟩)
  obtain ⟨L, hL⟩ := h.ro.blk k hm
  exact ⟨L, tLg, hL, .inr rfl⟩
theorem neSRu : 143 ≠ tRu := by decide
theorem neSLg : 143 ≠ tLg := by decide
theorem iAsked_end (hC : C.Ok) {op v : Int} {e f : ET} {b' o' : List ST} {cs : List Value} (hrn : rnS C.vs.length (.mk op v e f b' o')) (hS : StmtV C.F C.w0 cs (.mk op v e f b' o')) (h : Rt C w s) :
  Gos C 233 [.pointer (some ⟨C.b, 0, none⟩), .agg cs.toArray] w (askX C op e f s) fun a r w' => r = .tuple #[.int .i64 a.1, .int .i64 a.2.1] ∧ s.n ≤ a.2.2.n ∧ Rt C w' a.2.2 := by
 obtain ⟨_, _, _, hrE, hrF, _, _⟩ := hrn
 obtain ⟨ce, cf, bv, ov, rfl, he, hf, hb, ho⟩ := hS.inv
 obtain ⟨ba, bc, rfl⟩ := hb.form
 obtain ⟨oa, oc, rfl⟩ := ho.form
 obtain ⟨e0, e1, e2, e3, rfl⟩ := list4 he.length
 obtain ⟨f0, f1, f2, f3, rfl⟩ := list4 hf.length
 obtain ⟨TOT, hT0⟩ : ∃ TOT, TOT = askX C op e f s := ⟨_, rfl⟩
 rw [← hT0]
 unfold askX at hT0
 refine end_of 32 Tryz.func233 rfl rfl (by simp) ?_
 refine au ?_
 refine pl_op rfl rfl (opTo_boxN [.int .i64 op, .int .i64 v, e0, e1, e2, e3, f0, f1, f2, f3, .slice ba b'.length bc, .slice oa o'.length oc] rfl rfl rfl ?_)
 intro w1 x3 hx3 hs1 hk1 hX1
 have h1 := h.keep0 hk1
 refine lB hX1 ?_
 refine oC (has_ret op w1) ?_
 rintro r w1' ⟨rfl, hww⟩
 rw [hww]
 unfold hasV
 obtain ⟨qe, hqe⟩ : ∃ q, q = needE op := ⟨_, rfl⟩
 obtain ⟨qf, hqf⟩ : ∃ q, q = needF op := ⟨_, rfl⟩
 rw [← hqe] at hT0 hrE ⊢
 rw [← hqf] at hT0 hrF ⊢
 refine auj ?_
 refine rn_seq ?_
 refine rn_with (fun σ' w' => ∃ (x : Int) (s2 : Es), TOT = bndX (if qf then evE C.vs C.fuel f s2 else .ok (0, s2)) (fun c => .ok (x, c.1, c.2)) ∧ Rt C w' s2 ∧ s.n ≤ s2.n ∧ Rf w w' ∧ Blk w' x3 [.int .i64 op, .int .i64 v, e0, e1, e2, e3, f0, f1, f2, f3, .slice ba b'.length bc, .slice oa o'.length oc] 143 ∧ Sub [(0, .pointer (some ⟨C.b, 0, none⟩)), (3, .pointer (some ⟨x3, 0, none⟩)), (4, .int .i64 x), (5, .int .i64 0), (7, .bool qf)] σ') ?_ ?_
 rotate_left
 ·intro fin
  refine rn_seq ?_
  refine rn_plain ?_
  cases qe with
  | false =>
   refine auj ?_
   exact fin _ _ ⟨0, s, by rw [hT0]; rfl, h1, Nat.le_refl _, Rf.of0 hk1, hX1, rfl, rfl, rfl, rfl, rfl, trivial⟩
  | true =>
   rw [if_pos rfl] at hT0
   refine auj ?_
   refine rn_plain ?_
   refine auj ?_
   refine pl_val (.agg #[e0, e1, e2, e3]) rfl rfl (val_load [e0, e1, e2, e3] hT rfl rfl rfl (hX1.range (by rfl))) ?_
   refine pl_opE Tryz.func233 rfl rfl (opE_call (fst := []) (cap := []) rfl rfl rfl rfl (by decide +kernel) (gos_step (iexpr_end hC (szE e + 1) e (by omega) (hrE rfl) he h1) hT0 (Rf.of0 hk1) ?_))
   rintro ⟨y, s2⟩ r w2 hT2 ⟨rfl, hn2, h2⟩ hQ2 hR2
   refine auj ?_
   exact fin _ _ ⟨y, s2, hT2, h2, hn2, hR2, hQ2.blk hX1 neSRu neSLg, rfl, rfl, rfl, rfl, rfl, trivial⟩
 ·rintro σ' w2 ⟨x, s2, hT2, h2, hn2, hR2, hX2, hsub⟩
  refine rn_sub hsub ?_
  refine rn_seq ?_
  refine rn_with (fun σ' w' => ∃ (y : Int) (s3 : Es), TOT = .ok (x, y, s3) ∧ Rt C w' s3 ∧ s.n ≤ s3.n ∧ Rf w w' ∧ Sub [(4, .int .i64 x), (5, .int .i64 y)] σ') ?_ ?_
  rotate_left
  ·intro fin
   refine rn_seq ?_
   refine rn_plain ?_
   cases qf with
   | false =>
    refine auj ?_
    exact fin _ _ ⟨0, s2, by rw [hT2]; rfl, h2, hn2, hR2, rfl, rfl, trivial⟩
   | true =>
    rw [if_pos rfl] at hT2
    refine auj ?_
    refine rn_plain ?_
    refine auj ?_
    refine pl_val (.agg #[f0, f1, f2, f3]) rfl rfl (val_load [f0, f1, f2, f3] hT rfl rfl rfl (hX2.range (by rfl))) ?_
    refine pl_opE Tryz.func233 rfl rfl (opE_call (fst := []) (cap := []) rfl rfl rfl rfl (by decide +kernel) (gos_step (iexpr_end hC (szE f + 1) f (by omega) (hrF rfl) hf h2) hT2 hR2 ?_))
    rintro ⟨y, s3⟩ r w3 hT3 ⟨rfl, hn3, h3⟩ hQ3 hR3
    refine auj ?_
    exact fin _ _ ⟨y, s3, hT3, h3, Nat.le_trans hn2 hn3, hR3, rfl, rfl, trivial⟩
  ·rintro σ' w3 ⟨y, s3, hT3, h3, hn3, hR3, hsub⟩
   refine rn_sub hsub ?_
   refine au ?_
   exact rn_ret Tryz.func233 (.inr (.inr (.inr (.inr ⟨_, _, _, _, rfl, rfl, rfl, rfl⟩)))) ⟨(x, y, s3), hT3, ⟨rfl, hn3, h3⟩, hR3⟩
end
end
section
open Go.Proofs
def StI (C : Kx) (z : Nat) : Prop := ∀ (l : List ST), szSs l < z → rnSs C.vs.length l → ∀ {w : World} {lv : Value} {s : Es}, StmtsV C.F C.w0 lv l → Rt C w s →
  Gos C 177 [.pointer (some ⟨C.b, 0, none⟩), lv] w (evSs C.vs C.inp C.fuel l s) fun s' r w' => r = .tuple #[] ∧ s.n ≤ s'.n ∧ Rt C w' s'
def AgI (C : Kx) (z : Nat) : Prop := ∀ (t : ST), szS t < z → rnS C.vs.length t → ∀ {w : World} {cs : List Value} {s : Es}, StmtV C.F C.w0 cs t → Rt C w s →
  Gos C 206 [.pointer (some ⟨C.b, 0, none⟩), .agg cs.toArray] w (agX C t s) fun a r w' => r = .bool a.1 ∧ s.n ≤ a.2.n ∧ (a.1 = true → s.n < a.2.n) ∧ Rt C w' a.2
section
variable {C : Kx} {w : World} {s : Es}
theorem iChosen_end (hC : C.Ok) {z : Nat} (hS : StI C z) (x : Int) {l : List ST} (hz : szSs l < z) (hrn : rnSs C.vs.length l) {lv : Value} (hl : StmtsV C.F C.w0 lv l) (h : Rt C w s) :
  Gos C 236 [.pointer (some ⟨C.b, 0, none⟩), .int .i64 x, lv] w (chX C x l s) fun a r w' => r = .bool a.1 ∧ s.n ≤ a.2.n ∧ (a.1 = true → s.n < a.2.n) ∧ Rt C w' a.2 := by
 obtain ⟨la, lc, rfl⟩ := hl.form
 obtain ⟨TOT, hT0⟩ : ∃ TOT, TOT = chX C x l s := ⟨_, rfl⟩
 rw [← hT0]
 unfold chX at hT0
 refine end_of 16 Tryz.func236 rfl rfl (by simp) ?_
 refine au ?_
 by_cases h0 : x = 0
 ·refine ye ?_
  rw [if_pos h0] at hT0
  refine au ?_
  exact rn_ret Tryz.func236 (.inl ⟨_, rfl, rfl⟩) ⟨_, hT0, ⟨rfl, Nat.le_refl _, fun h => (by cases h), h⟩, Rf.refl _⟩
 ·refine nay ?_
  rw [if_neg h0] at hT0
  refine au ?_
  refine pl_opE Tryz.func236 rfl rfl (opE_call (fst := []) (cap := []) rfl rfl rfl rfl (by decide +kernel) (gos_step (hS l hz hrn hl h) hT0 (Rf.refl _) ?_))
  rintro s1 r w1 hT1 ⟨rfl, hn1, h1⟩ hQ1 hR1
  refine au ?_
  refine pl_opE Tryz.func236 rfl rfl (opE_call (fst := []) (cap := []) rfl rfl rfl rfl (by decide +kernel) (gos_step (iCount_end hC h1) hT1 hR1 ?_))
  rintro s2 r w2 hT2 ⟨rfl, hs2, h2⟩ hQ2 hR2
  have hn2 : s.n < s2.n := by rw [hs2]; show s.n < s1.n + 1; omega
  refine au ?_
  exact rn_ret Tryz.func236 (.inl ⟨_, rfl, rfl⟩) ⟨_, hT2, ⟨rfl, Nat.le_of_lt hn2, fun _ => hn2, h2⟩, hR2⟩
theorem iAgain_end (hC : C.Ok) {z : Nat} (hS : StI C z) : AgI C (z + 1) := by
 intro t ht hrn w cs s hSt h
 obtain ⟨op, v, e, f, b', o'⟩ := t
 have hSt0 := hSt
 have hrn0 := hrn
 obtain ⟨ho1, ho7, hvr, hrE, hrF, hrb, hro⟩ := hrn
 obtain ⟨ce, cf, bv, ov, rfl, he, hf, hb, ho⟩ := hSt.inv
 obtain ⟨ba, bc, rfl⟩ := hb.form
 obtain ⟨oa, oc, rfl⟩ := ho.form
 obtain ⟨e0, e1, e2, e3, rfl⟩ := list4 he.length
 obtain ⟨f0, f1, f2, f3, rfl⟩ := list4 hf.length
 simp only [szS] at ht
 obtain ⟨TOT, hT0⟩ : ∃ TOT, TOT = agX C (.mk op v e f b' o') s := ⟨_, rfl⟩
 rw [← hT0]
 simp only [agX] at hT0
 refine end_of 76 Tryz.func206 rfl rfl (by simp) ?_
 refine au ?_
 refine pl_op rfl rfl (opTo_boxN [.int .i64 op, .int .i64 v, e0, e1, e2, e3, f0, f1, f2, f3, .slice ba b'.length bc, .slice oa o'.length oc] rfl rfl rfl ?_)
 intro w1 x3 hx3 hs1 hk1 hX1
 have h1 := h.keep0 hk1
 refine au ?_
 refine pl_val (.agg #[.int .i64 op, .int .i64 v, e0, e1, e2, e3, f0, f1, f2, f3, .slice ba b'.length bc, .slice oa o'.length oc]) rfl rfl (val_load [.int .i64 op, .int .i64 v, e0, e1, e2, e3, f0, f1, f2, f3, .slice ba b'.length bc, .slice oa o'.length oc] hT rfl rfl rfl (hX1.range (by rfl))) ?_
 refine pl_opE Tryz.func206 rfl rfl (opE_call (fst := []) (cap := []) rfl rfl rfl rfl (by decide +kernel) (gos_step (iAsked_end hC hrn0 hSt0 h1) hT0 (Rf.of0 hk1) ?_))
 rintro ⟨x, y, s2⟩ r w2 hT2 ⟨rfl, hn2, h2⟩ hQ2 hR2
 have hX2 := hQ2.blk hX1 neSRu neSLg
 dsimp only at hT2 hn2 h2
 have hol2 : s2.out.length ≤ s2.n := let ⟨_, _, h⟩ := h2; h.ol
 refine au ?_
 refine pl_opE Tryz.func206 rfl rfl (opE_call (fst := []) (cap := []) rfl rfl rfl rfl (by decide +kernel) (gos_step (iCount_end hC h2) hT2 hR2 ?_))
 rintro s3 r w3 hT3 ⟨rfl, hs3e, h3⟩ hQ3 hR3
 have hX3 := hQ3.blk hX2 neSRu neSLg
 have hn3 : s.n ≤ s3.n := by rw [hs3e]; show s.n ≤ s2.n + 1; omega
 have hol3 : s3.out.length + 1 ≤ s3.n := by rw [hs3e]; show s2.out.length + 1 ≤ s2.n + 1; omega
 clear hs3e hT2 hT0
 unfold doX at hT3
 refine lB hX3 ?_
 refine au ?_
 by_cases c1 : op = 1
 ·obtain ⟨hv0, hvl⟩ := hvr (by rw [c1]; rfl)
  have hsz := size_pos hC.sz hv0 hvl
  refine ye ?_
  rw [if_neg (by omega), if_neg (by omega)] at hT3
  unfold sayS at hT3
  rw [if_pos c1] at hT3
  refine lB hX3 ?_
  obtain ⟨u, o, h3⟩ := h3
  refine pl_opE Tryz.func206 rfl rfl (opE_call (fst := []) (cap := []) rfl rfl rfl rfl (by decide +kernel) ((iCell_end hC h3 v 0 hv0 hvl).mono ?_ ?_))
  rotate_left
  ·rintro x w' ⟨hno, _⟩
   exfalso
   omega
  rintro r w4 ⟨_, hjl, ⟨g, cap, hcv, rfl⟩, hk4⟩
  have h4 := h3.keep0 hk4
  rw [Int.add_zero] at hjl ⊢
  obtain ⟨cur, hcb, hcl, hput⟩ := h4.set hjl hcv
  refine au ?_
  refine pl_op rfl rfl (opTo_storeN [.int .i64 x] rfl rfl rfl rfl size_rl hcb (by simp; omega) (one_in _) ?_)
  intro w5 hs5 hk5 hb5
  obtain ⟨h5, hR5⟩ := hput hk5 hb5
  refine au ?_
  exact rn_ret Tryz.func206 (.inl ⟨_, rfl, rfl⟩) ⟨_, hT3, ⟨rfl, hn3, fun h => (by cases h), u, o, h5⟩, (hR3.tr (Rf.of0 hk4)).tr hR5⟩
 refine nay ?_
 refine au ?_
 by_cases c2 : op = 2
 ·obtain ⟨hv0, hvl⟩ := hvr (by rw [c2]; rfl)
  refine ye ?_
  rw [if_neg (by omega), if_neg (by omega)] at hT3
  unfold sayS at hT3
  rw [if_neg c1, if_pos c2] at hT3
  refine lB hX3 ?_
  refine au ?_
  obtain ⟨u, o, h3⟩ := h3
  refine pl_opE Tryz.func206 rfl rfl (opE_call (fst := []) (cap := []) rfl rfl rfl rfl (by decide +kernel) ((iCell_end hC h3 v x hv0 hvl).mono ?_ ?_))
  rotate_left
  ·rintro x' w' ⟨hno, rfl, hk4⟩
   rw [if_neg hno] at hT3
   exact ⟨_, hT3, rfl, ⟨u, o, h3.keep0 hk4⟩, hR3.tr (Rf.of0 hk4)⟩
  rintro r w4 ⟨hyes, hjl, ⟨g, cap, hcv, rfl⟩, hk4⟩
  rw [if_pos hyes] at hT3
  have h4 := h3.keep0 hk4
  obtain ⟨cur, hcb, hcl, hput⟩ := h4.set hjl hcv
  refine au ?_
  refine pl_op rfl rfl (opTo_storeN [.int .i64 y] rfl rfl rfl rfl size_rl hcb (by simp; omega) (one_in _) ?_)
  intro w5 hs5 hk5 hb5
  obtain ⟨h5, hR5⟩ := hput hk5 hb5
  refine au ?_
  exact rn_ret Tryz.func206 (.inl ⟨_, rfl, rfl⟩) ⟨_, hT3, ⟨rfl, hn3, fun h => (by cases h), u, o, h5⟩, (hR3.tr (Rf.of0 hk4)).tr hR5⟩
 refine nay ?_
 refine au ?_
 by_cases c3 : op = 3
 ·refine ye ?_
  rw [if_neg (by omega), if_neg (by omega)] at hT3
  unfold sayS at hT3
  rw [if_neg c1, if_neg c2, if_pos c3] at hT3
  obtain ⟨u, o, h3⟩ := h3
  have hfu := hC.fu
  have hle3 := h3.le
  obtain ⟨oa', oc', rfl⟩ := h3.ro.form
  refine lB h3.bk ?_
  refine au ?_
  refine pl_op rfl rfl (opTo_sliceN tLg [.int .i64 x] rfl rfl (slice_lg x) ?_)
  intro w4 g hg hs4 hk4 hb4
  have h4 := h3.keep0 hk4
  refine pl_op rfl rfl (opTo_app C.w0.heap.size tLg 1 8 (lgs s3.out) [.int .i64 x] rfl rfl rfl app_lg h4.ro (hb4.range rfl) rfl (one_v rfl) (by decide) (by unfold maxLen; omega) (by omega) h4.kp.size ?_)
  intro g2 cap w5 hown5 hcase
  have hrow5 : RowL w5 C.w0.heap.size (.slice (some ⟨g2, 0, none⟩) (s3.out.length + 1) cap) (s3.out ++ [x]) := by
   have e1 : (s3.out ++ [x]).length = s3.out.length + 1 := by simp
   have e2 : lgs (s3.out ++ [x]) = lgs s3.out ++ [.int .i64 x] := by rw [lgs_app]; rfl
   unfold RowL
   rw [e1, e2]
   exact hown5
  have hk5 : Keep (obs (.slice oa' s3.out.length oc')) w4 w5 := by
   rcases hcase with ⟨h3, _, h4⟩ | ⟨_, h4, _⟩
   ·rw [obs, h3]; exact h4
   ·exact h4.of0
  have hob : ∀ x ∈ obs (.slice (some ⟨g2, 0, none⟩) (s3.out.length + 1) cap), x ∈ obs (.slice oa' s3.out.length oc') ∨ w4.heap.size ≤ x := fun x hx => by
   have hx : x = g2 := by simpa [obs, Value.ownBlock] using hx
   subst hx
   rcases hcase with ⟨h3, _, _⟩ | ⟨h3, _, _⟩
   ·exact .inl (mem_obs.2 h3)
   ·exact .inr (by omega)
  refine au ?_
  refine pl_op rfl rfl (opTo_storeN [.slice (some ⟨g2, 0, none⟩) (s3.out.length + 1) cap] rfl rfl rfl rfl size_rs (hk5.blk h4.bk fun hm => h4.ro.ne h4.bk neRuL C.b hm (by simp)) (by simp [ruC]) (one_v rfl) ?_)
  intro w6 hs6 hk6 hb6
  obtain ⟨h6, hR6⟩ := h4.print hC hol3 hk5 hrow5 hob hk6 hb6
  refine au ?_
  exact rn_ret Tryz.func206 (.inl ⟨_, rfl, rfl⟩) ⟨_, hT3, ⟨rfl, hn3, fun h => (by cases h), u, _, h6⟩, (hR3.tr (Rf.of0 hk4)).tr hR6⟩
 refine nay ?_
 refine au ?_
 by_cases c4 : op = 4
 ·obtain ⟨hv0, hvl⟩ := hvr (by rw [c4]; rfl)
  have hsz := size_pos hC.sz hv0 hvl
  refine ye ?_
  rw [if_neg (by omega), if_neg (by omega)] at hT3
  have hT4 : TOT = bndX (readX C.inp s3) fun a => .ok (false, { a.2 with cells := s3.cells.set (cellOf C.vs v).toNat a.1 }) := by
   rw [hT3]
   unfold sayS readX
   rw [if_neg c1, if_neg c2, if_neg c3, if_pos c4]
   split <;> rfl
  refine lB hX3 ?_
  obtain ⟨u, o, h3⟩ := h3
  refine pl_opE Tryz.func206 rfl rfl (opE_call (fst := []) (cap := []) rfl rfl rfl rfl (by decide +kernel) ((iCell_end hC h3 v 0 hv0 hvl).mono ?_ ?_))
  rotate_left
  ·rintro x w' ⟨hno, _⟩
   exfalso
   omega
  rintro r w4 ⟨_, hjl, ⟨g, cap, hcv, rfl⟩, hk4⟩
  rw [Int.add_zero] at hjl ⊢
  refine au ?_
  refine pl_opE Tryz.func206 rfl rfl (opE_call (fst := []) (cap := []) rfl rfl rfl rfl (by decide +kernel) (gos_step (iRead_end hC ⟨u, o, h3.keep0 hk4⟩) hT4 (hR3.tr (Rf.of0 hk4)) ?_))
  rintro ⟨y', s5⟩ r w5 hT5 ⟨rfl, hs5, u5, o5, h5⟩ hQ5 hR5
  dsimp only at hs5 hT5 h5
  subst hs5
  obtain ⟨cur, hcb, hcl, hput⟩ := h5.set (j := (cellOf C.vs v).toNat) hjl hcv
  refine au ?_
  refine pl_op rfl rfl (opTo_storeN [.int .i64 y'] rfl rfl rfl rfl size_rl hcb (by simp; omega) (one_in _) ?_)
  intro w6 hs6 hk6 hb6
  obtain ⟨h6, hR6⟩ := hput hk6 hb6
  refine au ?_
  exact rn_ret Tryz.func206 (.inl ⟨_, rfl, rfl⟩) ⟨_, hT5, ⟨rfl, hn3, fun h => (by cases h), u5, o5, h6⟩, hR5.tr hR6⟩
 refine nay ?_
 refine au ?_
 by_cases c5 : op = 5
 ·refine ye ?_
  rw [if_pos c5] at hT3
  refine lB hX3 ?_
  refine pl_opE Tryz.func206 rfl rfl (opE_call (fst := []) (cap := []) rfl rfl rfl rfl (by decide +kernel) (gos_step (iChosen_end hC hS x (by omega) hrb hb h3) (hT3.trans (bnd_id _)) hR3 ?_))
  rintro ⟨q, s4⟩ r w4 hT4 ⟨rfl, hn4, hlt4, h4⟩ hQ4 hR4
  refine au ?_
  exact rn_ret Tryz.func206 (.inl ⟨_, rfl, rfl⟩) ⟨_, hT4, ⟨rfl, Nat.le_trans hn3 hn4, fun h => Nat.lt_of_le_of_lt hn3 (hlt4 h), h4⟩, hR4⟩
 refine nay ?_
 refine au ?_
 rw [if_neg c5] at hT3
 by_cases c6 : op = 6
 ·refine ye ?_
  rw [if_pos c6] at hT3
  refine lB hX3 ?_
  refine pl_opE Tryz.func206 rfl rfl (opE_call (fst := []) (cap := []) rfl rfl rfl rfl (by decide +kernel) (gos_step (iChosen_end hC hS x (by omega) hrb hb h3) hT3 hR3 ?_))
  rintro ⟨q, s4⟩ r w4 hT4 ⟨rfl, hn4, hlt4, h4⟩ hQ4 hR4
  dsimp only at hT4 hn4 h4
  have hX4 := hQ4.blk hX3 neSRu neSLg
  cases q with
  | true =>
   rw [if_pos rfl] at hT4
   refine au ?_
   exact rn_ret Tryz.func206 (.inl ⟨_, rfl, rfl⟩) ⟨_, hT4, ⟨rfl, Nat.le_trans hn3 hn4, fun h => (by cases h), h4⟩, hR4⟩
  | false =>
   rw [if_neg (by decide)] at hT4
   refine lB hX4 ?_
   refine pl_opE Tryz.func206 rfl rfl (opE_call (fst := []) (cap := []) rfl rfl rfl rfl (by decide +kernel) (gos_step (hS o' (by omega) hro ho h4) hT4 hR4 ?_))
   rintro s5 r w5 hT5 ⟨rfl, hn5, h5⟩ hQ5 hR5
   refine au ?_
   exact rn_ret Tryz.func206 (.inl ⟨_, rfl, rfl⟩) ⟨_, hT5, ⟨rfl, Nat.le_trans hn3 (Nat.le_trans hn4 hn5), fun h => (by cases h), h5⟩, hR5⟩
 refine nay ?_
 refine au ?_
 rw [if_neg c6] at hT3
 unfold sayS at hT3
 rw [if_neg c1, if_neg c2, if_neg c3, if_neg c4] at hT3
 exact rn_ret Tryz.func206 (.inl ⟨_, rfl, rfl⟩) ⟨_, hT3, ⟨rfl, hn3, fun h => (by cases h), h3⟩, hR3⟩
end
end
section
open Go.Proofs
def zstI : List Value := scells 0 0 jz jz (.slice none 0 0) (.slice none 0 0)
theorem zero_is : ((Tryz.prog.info? 143).bind (·.zero)).map (·.cells) = some zstI.toArray := by kernel_rfl
theorem size_is : sizeOk Tryz.prog 143 12 = true := by kernel_rfl
theorem iStmts_end {C : Kx} (hC : C.Ok) {z : Nat} (hz0 : z ≤ 100000) (hA : AgI C z) : StI C z := by
 intro l hz hrn w lv s hl h
 obtain ⟨la, lc, rfl⟩ := hl.form
 obtain ⟨TOT, hT0⟩ : ∃ TOT, TOT = evSs C.vs C.inp C.fuel (l.drop 0) s := ⟨_, rfl⟩
 rw [List.drop_zero] at hT0
 rw [← hT0]
 have hlen := szSs_len l
 refine end_of 16 Tryz.func177 rfl rfl (by simp) ?_
 refine au ?_
 refine rn_ind (fun m σ w' => ∃ (i : Nat) (s' : Es), i ≤ l.length ∧ m = l.length - i ∧ σ = [(0, .pointer (some ⟨C.b, 0, none⟩)), (6, .slice la l.length lc), (7, .int .i64 (l.length : Nat)), (8, .int .i64 (i : Nat))] ∧ TOT = evSs C.vs C.inp C.fuel (l.drop i) s' ∧ Rt C w' s' ∧ s.n ≤ s'.n ∧ Rf w w')
  l.length _ ?_ ⟨0, s, by omega, by omega, rfl, by rw [List.drop_zero]; exact hT0, h, Nat.le_refl _, Rf.refl _⟩ ?_
 ·exact ⟨rfl, rfl, rfl, rfl, trivial⟩
 rintro m σ w6 ih ⟨i, s', hi, rfl, rfl, hT6, h6, hn6, hR6⟩
 refine au ?_
 by_cases hlt : i < l.length
 ·refine ye ?_
  have hxi : l[i]? = some l[i] := List.getElem?_eq_getElem hlt
  obtain ⟨b1, q1, c1, ci, hv1, hF1, hr1, hc1⟩ := hl.at hxi
  cases hv1
  have hszi := szSs_at hxi
  have hT7 : TOT = bndX (loA C l[i] (C.fuel + 1) s') fun s1 => evSs C.vs C.inp C.fuel (l.drop (i + 1)) s1 := by
   rw [hT6, List.drop_eq_getElem_cons hlt, ← evS_loA]
   rfl
  refine au ?_
  refine pl_val _ rfl rfl (val_index i hT rfl rfl rfl rfl rfl hlt w6) ?_
  refine pl_val (.agg ci.toArray) rfl rfl (val_load ci hT rfl rfl (by rw [hc1.length]; rfl) (range_keep hr1 h6.kp (hC.hF _ hF1) (by simp))) ?_
  refine pl_op rfl rfl (opTo_allocN _ rfl zero_is ?_)
  intro w7 x7 hx7 hs7 hk7 hb7
  refine pl_op rfl rfl (opTo_storeN ci rfl rfl rfl rfl (by rw [hc1.length]; exact size_is) hb7 (by rw [hc1.length]; decide) hc1.one ?_)
  intro w8 hs8 hk8 hb8
  rw [splice_whole (by rw [hc1.length]; rfl)] at hb8
  have hk68 : Keep [] w6 w8 := hk7.trB hk8 (by omega)
  refine au ?_
  refine rn_ind (fun m σ w' => ∃ (s9 : Es), C.fuel < m + s9.n ∧ σ = [(0, .pointer (some ⟨C.b, 0, none⟩)), (5, .pointer (some ⟨x7, 0, none⟩)), (6, .slice (some ⟨b1, q1, none⟩) l.length lc), (7, .int .i64 (l.length : Nat)), (8, .int .i64 (i : Nat))] ∧
   TOT = bndX (loA C l[i] m s9) (fun s1 => evSs C.vs C.inp C.fuel (l.drop (i + 1)) s1) ∧ Rt C w' s9 ∧ s.n ≤ s9.n ∧ Rf w w' ∧ Blk w' x7 ci 143)
   (C.fuel + 1) _ ?_ ⟨s', by omega, rfl, hT7, h6.keep0 hk68, hn6, hR6.tr (Rf.of0 hk68), hb8⟩ ?_
  ·exact ⟨rfl, rfl, rfl, rfl, rfl, trivial⟩
  rintro m σ w9 ih2 ⟨s9, hm9, rfl, hT9, h9, hn9, hR9, hX9⟩
  have hle9 := h9.le
  obtain ⟨g, rfl⟩ : ∃ g, m = g + 1 := ⟨m - 1, by omega⟩
  simp only [loA] at hT9
  rw [bnd_assoc] at hT9
  refine au ?_
  refine pl_val (.agg ci.toArray) rfl rfl (val_load ci hT rfl rfl (by rw [hc1.length]; rfl) (hX9.range (by simp))) ?_
  refine pl_opE Tryz.func177 rfl rfl (opE_call (fst := []) (cap := []) rfl rfl rfl rfl (by decide +kernel) (gos_step (hA l[i] (by omega) (rnSs_at hrn hxi) hc1 h9) hT9 hR9 ?_))
  rintro ⟨q, s10⟩ r w10 hT10 ⟨rfl, hn10, hlt10, h10⟩ hQ10 hR10
  dsimp only at hT10 hn10 hlt10 h10
  have hX10 := hQ10.blk hX9 neSRu neSLg
  cases q with
  | true =>
   rw [if_pos rfl] at hT10
   have hlt10 := hlt10 rfl
   refine au ?_
   refine rn_sub ?_ (ih2 g _ w10 (by omega) ⟨s10, by omega, rfl, hT10, h10, by omega, hR10, hX10⟩)
   exact ⟨rfl, rfl, rfl, rfl, rfl, trivial⟩
  | false =>
   rw [if_neg (by decide)] at hT10
   refine nM ((i + 1 : Nat) : Int) ?_
   refine au ?_
   refine rn_sub ?_ (ih (l.length - (i + 1)) [(0, .pointer (some ⟨C.b, 0, none⟩)), (6, .slice (some ⟨b1, q1, none⟩) l.length lc), (7, .int .i64 (l.length : Nat)), (8, .int .i64 ((i + 1 : Nat) : Int))] w10 (by omega) ⟨i + 1, s10, by omega, rfl, rfl, hT10, h10, by omega, hR10⟩)
   exact ⟨rfl, rfl, rfl, rfl, trivial⟩
 ·refine nay ?_
  rw [List.drop_of_length_le (by omega)] at hT6
  refine au ?_
  exact rn_end Tryz.func177 (.inr (.inl ⟨rfl, rfl⟩)) ⟨s', hT6, ⟨rfl, hn6, h6⟩, hR6⟩
theorem iStmts_all {C : Kx} (hC : C.Ok) : ∀ (z : Nat), z ≤ 100000 → StI C z
 | 0, _ => fun l hz => by omega
 | z + 1, h => iStmts_end hC h (iAgain_end hC (iStmts_all hC z (by omega)))
theorem iCaught {w : World} {x2 : Nat} (hb : Blk w x2 [.int .i64 0] 3) (c : Nat) :
  CallsD Tryz.prog 176 [Value.pointer (some ⟨x2, 0, none⟩)].toArray (.panicking (pan (gvI c))) w fun en u' w' => en = .returned (.tuple #[]) ∧ u' = .panicking [{ v := gvI c, recovered := true }] ∧ Blk w' x2 [.int .i64 (c : Nat)] 3 ∧ Keep [x2] w w' := by
 refine callsD_of 8 Tryz.func176 rfl rfl (by simp) ?_
 refine rnD_seq ?_
 refine rnD_recover (gvI c) rfl rfl rfl (fun a ha => rfl) ?_
 refine au ?_
 refine pl_val _ rfl rfl (val_errSome _ _ (by decide +kernel) rfl rfl w) ?_
 refine au ?_
 refine pl_val _ rfl rfl (val_assert (by decide +kernel) rfl rfl w) ?_
 refine pl_val _ rfl rfl (val_field1 0 [.int .i64 (c : Nat)] rfl rfl (by decide +kernel) rfl w) ?_
 refine pl_op rfl rfl (opTo_storeN [.int .i64 (c : Nat)] rfl rfl rfl rfl size_rn hb (by simp) (one_in _) ?_)
 intro w1 hs1 hk1 hb1
 rw [splice_whole (by rfl)] at hb1
 refine au ?_
 exact rn_endX Tryz.func176 rfl (.inr (.inl ⟨rfl, rfl⟩)) ⟨rfl, rfl, hb1, hk1⟩
theorem iUncaught (w : World) (x2 : Nat) :
  CallsD Tryz.prog 176 [Value.pointer (some ⟨x2, 0, none⟩)].toArray .returning w fun en u' w' => en = .returned (.tuple #[]) ∧ u' = .returning ∧ w' = w := by
 refine callsD_of 8 Tryz.func176 rfl rfl (by simp) ?_
 refine rnD_seq ?_
 refine rnD_norec rfl rfl rfl (fun a ha => rfl) ?_
 refine au ?_
 refine pl_val _ rfl rfl (val_errNil (by decide +kernel) rfl rfl w) ?_
 refine au ?_
 exact rn_endX Tryz.func176 rfl (.inr (.inl ⟨rfl, rfl⟩)) ⟨rfl, rfl, rfl⟩
end
section
open Go.Proofs
theorem zero_in : ((Tryz.prog.info? 3).bind (·.zero)).map (·.cells) = some [Value.int .i64 0].toArray := by kernel_rfl
theorem neIRu : 3 ≠ tRu := by decide
theorem neILg : 3 ≠ tLg := by decide
theorem loadVar_one {P : Program} {T : Tbl} {w : World} {t b i : Nat} {v : Value} (hT : T.check P = true) (ht : find T.one t = some ()) (hc : w.cell? ⟨b, i, none⟩ = some v) : (loadVar t ⟨b, i, none⟩).run P w = .ok v w := by
 have hs := Tbl.one_ok hT ht
 unfold oneOk at hs
 cases hu : P.underlying t with
 | none => simp [hu] at hs
 | some d =>
  have hagg : (isAgg t).run P w = .ok false w := by
   unfold isAgg
   rw [Sem.run_bind, run_underlying hu w]
   cases d <;> simp_all
  simp [loadVar, hagg, hc]
theorem Rt.other {C : Kx} {w w' : World} {s : Es} {x : Nat} {L : List Value} {e : TypeId} (h : Rt C w s) (hx : C.w0.heap.size ≤ x) (hb : Blk w x L e) (h1 : e ≠ tRu) (h2 : e ≠ tLg) (hk : Keep [x] w w') : Rt C w' s := by
 obtain ⟨u, o, h⟩ := h
 refine ⟨u, o, h.kp.trB hk hx, hk.blk h.bk ?_, h.un, h.rc.keep hk (h.rc.ne hb h2), h.ro.keep hk (h.ro.ne hb h2), h.ap, h.cl, h.le, h.ol⟩
 simp only [List.mem_singleton]
 exact Blk.ne h.bk hb h1.symm
section
variable {C : Kx} {w : World} {s : Es}
theorem iRun_ret (hC : C.Ok) (hz : szSs C.bd ≤ 1000) (hrn : rnSs C.vs.length C.bd) (h : Rt C w s) :
  Ret Tryz.prog 137 [.pointer (some ⟨C.b, 0, none⟩)] w fun r w' => ∃ (c : Nat) (s' : Es), r = .int .i64 (c : Nat) ∧ (c, s'.out, s'.cells, s'.n) = resX (evP C.vs C.inp C.fuel C.bd s) ∧ Rt C w' s' ∧ Rf w w' := by
 obtain ⟨vv', bv', hpe, _, hbb⟩ := hC.pr
 injection hpe with hpe
 have hpe2 := congrArg Array.toList hpe
 simp only [List.cons.injEq, and_true] at hpe2
 obtain ⟨_, hpe2⟩ := hpe2
 rw [← hpe2] at hbb
 refine ret_of 15 Tryz.func137 rfl rfl (by simp) ?_
 refine au ?_
 refine pl_op rfl rfl (opTo_allocN _ rfl zero_in ?_)
 intro w1 x2 hx2 hs1 hk1 hc1
 have h1 := h.keep0 hk1
 have hxw : C.w0.heap.size ≤ x2 := by have := h.kp.size; omega
 refine au ?_
 refine pl_defer (d := ⟨.fn (.func 176) #[.pointer (some ⟨x2, 0, none⟩)], #[]⟩) rfl rfl (fun a ha => ?_) ?_
 ·have := ha.has 3 _ rfl
  simp [execOp, resolve, Act.eval, this, Deferred.ofValue]
 refine au ?_
 obtain ⟨u1, o1, hu1⟩ := h1
 refine lB hu1.bk ?_
 obtain ⟨TOT, hT0⟩ : ∃ TOT, TOT = evP C.vs C.inp C.fuel C.bd s := ⟨_, rfl⟩
 rw [← hT0]
 unfold evP at hT0
 refine pl_opD Tryz.func137 rfl rfl rfl (opE_call (fst := []) (cap := []) rfl rfl rfl rfl (by decide +kernel) (End.mono (gos_step (KK := fun r w' => ∃ s1, TOT = tick C.fuel s1 ∧ Rt C w' s1 ∧ Rf w1 w' ∧ r = .tuple #[]) (iStmts_all hC (szSs C.bd + 1) (by omega) C.bd (by omega) hrn hbb ⟨u1, o1, hu1⟩) hT0 (Rf.refl w1) (fun s1 r w' hX ⟨hr, _, h⟩ _ hR => ⟨s1, hX, h, hR, hr⟩)) ?_ ?_))
 rotate_left
 ·rintro v w4 ⟨e, hX, rfl, h4, hR4⟩
  intro ac ha
  have hc4 := hR4.blk hc1 neIRu neILg
  refine ⟨fun h => (by cases h), .func 176, _, 176, [Value.pointer (some ⟨x2, 0, none⟩)].toArray, rfl, rfl, ?_⟩
  refine CallsD.mono' (iCaught hc4 e.1) ?_
  rintro en u' w5 ⟨rfl, rfl, hc5, hk5⟩
  refine ⟨.int .i64 (e.1 : Nat), ?_, .inl ⟨_, rfl, e.1, e.2, rfl, by rw [hX]; rfl, h4.other hxw hc4 neIRu neILg hk5, ((Rf.of0 hk1).tr hR4).trB hk5 (by omega)⟩⟩
  have i2 := ha.has 2 _ rfl
  have l2 : (loadVar 3 ⟨x2, 0, none⟩).run Tryz.prog w5 = .ok (.int .i64 (e.1 : Nat)) w5 := loadVar_one hT rfl (hc5.cell rfl)
  show (results Tryz.f137 ac.tmps).run _ _ = _
  simp only [results, show Tryz.f137.results = #[.cell 2 3] from rfl]
  simp [i2, asAddr, l2]
 rintro r w2 ⟨s1, hT2, h2, hR2, rfl⟩
 refine au ?_
 refine pl_opD Tryz.func137 rfl rfl rfl (opE_call (fst := []) (cap := []) rfl rfl rfl rfl (by decide +kernel) (End.mono (gos_step (KK := fun r w' => ∃ s1, TOT = .ok s1 ∧ Rt C w' s1 ∧ Rf w1 w' ∧ r = .tuple #[]) (iCount_end hC h2) (hT2.trans (bnd_id _)) hR2 (fun s1 r w' hX ⟨hr, _, h⟩ _ hR => ⟨s1, hX, h, hR, hr⟩)) ?_ ?_))
 rotate_left
 ·rintro v w4 ⟨e, hX, rfl, h4, hR4⟩
  intro ac ha
  have hc4 := hR4.blk hc1 neIRu neILg
  refine ⟨fun h => (by cases h), .func 176, _, 176, [Value.pointer (some ⟨x2, 0, none⟩)].toArray, rfl, rfl, ?_⟩
  refine CallsD.mono' (iCaught hc4 e.1) ?_
  rintro en u' w5 ⟨rfl, rfl, hc5, hk5⟩
  refine ⟨.int .i64 (e.1 : Nat), ?_, .inl ⟨_, rfl, e.1, e.2, rfl, by rw [hX]; rfl, h4.other hxw hc4 neIRu neILg hk5, ((Rf.of0 hk1).tr hR4).trB hk5 (by omega)⟩⟩
  have i2 := ha.has 2 _ rfl
  have l2 : (loadVar 3 ⟨x2, 0, none⟩).run Tryz.prog w5 = .ok (.int .i64 (e.1 : Nat)) w5 := loadVar_one hT rfl (hc5.cell rfl)
  show (results Tryz.f137 ac.tmps).run _ _ = _
  simp only [results, show Tryz.f137.results = #[.cell 2 3] from rfl]
  simp [i2, asAddr, l2]
 rintro r w3 ⟨s3, hT3, h3, hR3, rfl⟩
 have hc3 := hR3.blk hc1 neIRu neILg
 refine au ?_
 refine pl_op rfl rfl (opTo_storeN [.int .i64 0] rfl rfl rfl rfl size_rn hc3 (by simp) (one_in _) ?_)
 intro w4 hs4 hk4 hc4
 rw [splice_whole (by rfl)] at hc4
 refine au ?_
 refine rn_retD Tryz.func137 rfl (fun ac ha => ⟨fun h => (by cases h), .func 176, _, 176, [Value.pointer (some ⟨x2, 0, none⟩)].toArray, rfl, rfl, ?_⟩)
 refine CallsD.mono' (iUncaught w4 x2) ?_
 rintro e u' w5 ⟨rfl, rfl, rfl⟩
 refine ⟨.int .i64 0, ?_, .inl ⟨_, rfl, 0, s3, rfl, by rw [hT3]; rfl, h3.other hxw hc3 neIRu neILg hk4, ((Rf.of0 hk1).tr hR3).trB hk4 (by omega)⟩⟩
 have i2 := ha.has 2 _ rfl
 have l2 : (loadVar 3 ⟨x2, 0, none⟩).run Tryz.prog w5 = .ok (.int .i64 0) w5 := loadVar_one hT rfl (hc4.cell rfl)
 show (results Tryz.f137 ac.tmps).run _ _ = _
 simp only [results, show Tryz.f137.results = #[.cell 2 3] from rfl]
 simp [i2, asAddr, l2]
end
section
variable {P : Program} {f n : Nat} {k : List Item} {K Kp : Value → World → Prop} {σ : Env} {w : World}
theorem rn_retCTT {fn : Func} {t0 ty t1 t2 : Nat} {ad : Addr} {v0 v1 v2 : Value} (hf : P.funcs[f]? = some fn) (hr : fn.results = #[.cell t0 ty, .tmp t1, .tmp t2]) (h0 : look σ t0 = some (.pointer (some ad))) (hl : (loadVar ty ad).run P w = .ok v0 w) (h1 : look σ t1 = some v1) (h2 : look σ t2 = some v2)
  (hR : K (.tuple #[v0, v1, v2]) w) : Rn P f n (.code .ret :: k) (endR K Kp) σ w := fun a ha hd =>
 runs_ret hf hd (by simp only [results, hr]; simp [ha.has t0 _ h0, asAddr, hl, ha.has t1 _ h1, ha.has t2 _ h2]) hR
end
theorem built_rm (a : Int) : Tryz.prog.built 209 [(1, .int .i64 a)] = some [Value.int .i64 0, .int .i64 a].toArray := by kernel_rfl
theorem built_ru (a : Int) (a1 a2 a3 a4 : Option Addr) (n1 c1 n2 c2 n3 c3 n4 c4 : Nat) : Tryz.prog.built tRu [(0, .agg #[.int .i64 0, .int .i64 a]), (1, .agg #[.slice a1 n1 c1, .slice a2 n2 c2]), (2, .slice a3 n3 c3), (3, .slice a4 n4 c4)] = some [Value.int .i64 0, .int .i64 a, .slice a1 n1 c1, .slice a2 n2 c2, .slice a3 n3 c3, .slice a4 n4 c4, .slice none 0 0].toArray := by kernel_rfl
theorem built_ir0 : Tryz.prog.built 81 [] = some (resC 0 (.slice none 0 0) (.slice none 0 0)).toArray := by kernel_rfl
theorem built_ir3 (c : Int) (a b : Option Addr) (n k m d : Nat) : Tryz.prog.built 81 [(0, .int .i64 c), (1, .slice a n k), (2, .slice b m d)] = some (resC c (.slice a n k) (.slice b m d)).toArray := by kernel_rfl
theorem sl_rl : intSl Tryz.prog 28 2 = true := by decide +kernel
theorem neReRu : 81 ≠ tRu := by decide
theorem neReLg : 81 ≠ tLg := by decide
theorem nw_nil (w : World) : Nw w (.slice none 0 0) := fun b q n c h => by cases h
theorem ls0 (w : World) : LsV w (.slice none 0 0) [] := ⟨none, 0, rfl, fun h => absurd h (by simp)⟩
theorem ideal_run {F : Nat → Prop} {w : World} {x iv : Value} {vs : List VarT} {body : List ST} {inp : List Int} (fuel : Int) (hp : ProgV F w x vs body) (hF : In F w) (hi : LsC w iv inp) (hvl : vs.length ≤ 100000) (hsz : szSs body ≤ 1000) (hil : inp.length ≤ 100000) :
  Ret Tryz.prog 100 [x, iv, .int .i64 fuel] w fun r w' => (∃ ov cv, r = .tuple #[.agg (resC (runI vs body inp fuel).code ov cv).toArray, .int .i64 (runI vs body inp fuel).used, .int .i64 (runI vs body inp fuel).fault] ∧ LsC w' ov (runI vs body inp fuel).out ∧ LsV w' cv (runI vs body inp fuel).cells ∧ Nw w ov ∧ Nw w cv) ∧ Keep [] w w' := by
 have hp0 := hp
 obtain ⟨vv, bv, rfl, hv, hb⟩ := hp
 obtain ⟨av, capv, rfl⟩ := hv.form
 obtain ⟨ab, capb, rfl⟩ := hb.form
 obtain ⟨⟨ia, icap, rfl, hir⟩, hic⟩ := hi
 have hic := hic _ _ _ rfl
 refine ret_of 56 Tryz.func100 rfl rfl (by simp) ?_
 refine au ?_
 refine pl_op rfl rfl (opTo_boxN [.slice av vs.length capv, .slice ab body.length capb] rfl rfl rfl ?_)
 intro w1 x3 hx3 hs1 hk1 hX1
 refine au ?_
 refine pl_op rfl rfl (opTo_allocN _ rfl zero_re ?_)
 intro w2 x6 hx6 hs2 hk2 hZ2
 have hk02 := hk1.tr hk2
 have hX2 := hk2.blk hX1 (by simp)
 refine au ?_
 refine pl_val (.agg #[.slice av vs.length capv, .slice ab body.length capb]) rfl rfl (val_load [.slice av vs.length capv, .slice ab body.length capb] hT rfl rfl rfl (hX2.range (by rfl))) ?_
 refine oC (check_ret (hp0.keep hk02 hF.stays) (hF.keep hk02) (by omega)) ?_
 rintro r w3 ⟨rfl, hk3⟩
 have hk03 := hk02.tr hk3
 have hX3 := hk3.blk hX2 (by simp)
 have hZ3 := hk3.blk hZ2 (by simp)
 have hx6w : w.heap.size ≤ x6 := by have := hk1.size; omega
 refine au ?_
 by_cases hpf : ¬ progFault vs body = 0
 ·refine ye ?_
  refine au ?_
  refine pl_val _ rfl rfl (val_build _ rfl rfl built_ir0 w3) ?_
  refine au ?_
  refine pl_op rfl rfl (opTo_storeN (resC 0 (.slice none 0 0) (.slice none 0 0)) rfl rfl rfl rfl size_re hZ3 (by simp [resC]) (resC_one _ _ _ _ _ _ _) ?_)
  intro w4 hs4 hk4 hZ4
  rw [splice_whole (by rfl)] at hZ4
  refine au ?_
  rw [runI_not hpf]
  exact rn_retCTT Tryz.func100 rfl rfl (blk_loadVar hT hZ4 rfl) rfl rfl ⟨⟨.slice none 0 0, .slice none 0 0, rfl, ls_nil _, ls0 _, nw_nil _, nw_nil _⟩, hk03.trB hk4 hx6w⟩
 replace hpf : progFault vs body = 0 := by omega
 rw [hpf]
 refine nay ?_
 refine au ?_
 by_cases hoff : ¬ (inp.length ≤ 40 ∧ 0 ≤ fuel ∧ fuel ≤ 3000)
 ·rw [runI_off hpf hoff]
  by_cases hl1 : ¬ inp.length ≤ 40
  ·refine ye ?_
   refine au ?_
   refine pl_val _ rfl rfl (val_build _ rfl rfl built_ir0 w3) ?_
   refine pl_op rfl rfl (opTo_storeN (resC 0 (.slice none 0 0) (.slice none 0 0)) rfl rfl rfl rfl size_re hZ3 (by simp [resC]) (resC_one _ _ _ _ _ _ _) ?_)
   intro w4 hs4 hk4 hZ4
   rw [splice_whole (by rfl)] at hZ4
   refine au ?_
   exact rn_retCTT Tryz.func100 rfl rfl (blk_loadVar hT hZ4 rfl) rfl rfl ⟨⟨.slice none 0 0, .slice none 0 0, rfl, ls_nil _, ls0 _, nw_nil _, nw_nil _⟩, hk03.trB hk4 hx6w⟩
  refine nay ?_
  refine au ?_
  by_cases hl2 : fuel < 0
  ·refine ye ?_
   refine au ?_
   refine pl_val _ rfl rfl (val_build _ rfl rfl built_ir0 w3) ?_
   refine pl_op rfl rfl (opTo_storeN (resC 0 (.slice none 0 0) (.slice none 0 0)) rfl rfl rfl rfl size_re hZ3 (by simp [resC]) (resC_one _ _ _ _ _ _ _) ?_)
   intro w4 hs4 hk4 hZ4
   rw [splice_whole (by rfl)] at hZ4
   refine au ?_
   exact rn_retCTT Tryz.func100 rfl rfl (blk_loadVar hT hZ4 rfl) rfl rfl ⟨⟨.slice none 0 0, .slice none 0 0, rfl, ls_nil _, ls0 _, nw_nil _, nw_nil _⟩, hk03.trB hk4 hx6w⟩
  refine nay ?_
  refine ye ?_
  refine au ?_
  refine pl_val _ rfl rfl (val_build _ rfl rfl built_ir0 w3) ?_
  refine pl_op rfl rfl (opTo_storeN (resC 0 (.slice none 0 0) (.slice none 0 0)) rfl rfl rfl rfl size_re hZ3 (by simp [resC]) (resC_one _ _ _ _ _ _ _) ?_)
  intro w4 hs4 hk4 hZ4
  rw [splice_whole (by rfl)] at hZ4
  refine au ?_
  exact rn_retCTT Tryz.func100 rfl rfl (blk_loadVar hT hZ4 rfl) rfl rfl ⟨⟨.slice none 0 0, .slice none 0 0, rfl, ls_nil _, ls0 _, nw_nil _, nw_nil _⟩, hk03.trB hk4 hx6w⟩
 have hon : inp.length ≤ 40 ∧ 0 ≤ fuel ∧ fuel ≤ 3000 := by omega
 obtain ⟨hl1, hl2, hl3⟩ := hon
 rw [runI_in hpf hl1 hl2 hl3]
 obtain ⟨fu, rfl⟩ : ∃ fu : Nat, fuel = (fu : Nat) := ⟨fuel.toNat, by omega⟩
 rw [Int.toNat_natCast]
 obtain ⟨hv8, hcv, kk, hkk⟩ := progFault_ok hpf
 obtain ⟨hszs, hsum⟩ := chkV_sizes hcv
 have hsum := hsum (by omega)
 have hsum0 := sumV_nonneg hszs
 have hrn := chkSs_rn body hkk
 have hsized : Sized vs := ⟨by omega, fun x hx => by have := hszs x hx; omega⟩
 have hcellN : cellOf vs (vs.length : Nat) = (((sumV vs).toNat : Nat) : Int) := by
  unfold cellOf
  rw [Int.toNat_natCast, List.take_length]
  omega
 refine nay ?_
 refine nay ?_
 refine nay ?_
 refine au ?_
 refine rn_draw (fun w' => Keep [] w3 w') [] hMix ?_
 have hS : Keep [] w3 w3.drew := (Keep.refl _ _).drew
 generalize w3.drew = w4 at *
 refine tk 0 ?_
 refine dr_any 1 _ rfl (by decide +kernel) rfl rfl (fun w => val_build _ rfl rfl (built_rm (fu : Nat)) w) ?_
 refine dr_val 2 (.agg #[.slice av vs.length capv, .slice ab body.length capb]) rfl (by decide +kernel) rfl rfl (fun w9 hS9 => val_load [.slice av vs.length capv, .slice ab body.length capb] hT rfl rfl rfl ((hS9.blk hX3 (by simp)).range (by rfl))) hS ?_
 refine tk 3 ?_
 refine dr_val 4 (.agg #[.slice av vs.length capv, .slice ab body.length capb]) rfl (by decide +kernel) rfl rfl (fun w9 hS9 => val_load [.slice av vs.length capv, .slice ab body.length capb] hT rfl rfl rfl ((hS9.blk hX3 (by simp)).range (by rfl))) hS ?_
 refine dC 5 (cells_ret (hp0.keep (hk03.tr hS) hF.stays) (hF.keep (hk03.tr hS)) hsized) ?_
 rintro r w5 ⟨rfl, hk5⟩
 rw [hcellN]
 refine ⟨fun _ => hS.tr hk5, ?_⟩
 refine dr_op 6 rfl (by decide +kernel) rfl rfl (opTo_makeI 2 (sumV vs).toNat rfl rfl rfl sl_rl (by omega) ?_)
 intro w6 g hg hs6 hk6 hG6
 refine ⟨fun _ => (hS.tr hk5).tr hk6, ?_⟩
 refine dr_any 7 _ rfl (by decide +kernel) rfl rfl (fun w => val_build _ rfl rfl (built_ru (fu : Nat) av ab ia (some ⟨g, 0, none⟩) vs.length capv body.length capb inp.length icap (sumV vs).toNat (sumV vs).toNat) w) ?_
 refine dr_op 8 rfl (by decide +kernel) rfl rfl (opTo_boxN [.int .i64 0, .int .i64 (fu : Nat), .slice av vs.length capv, .slice ab body.length capb, .slice ia inp.length icap, .slice (some ⟨g, 0, none⟩) (sumV vs).toNat (sumV vs).toNat, .slice none 0 0] rfl rfl rfl ?_)
 intro w7 b hb0 hs7 hk7 hB7
 have hk37 := ((hS.tr hk5).tr hk6).tr hk7
 refine ⟨fun _ => hk37, ?_⟩
 refine tk 9 ?_
 refine dr_done (by decide +kernel) ?_
 have hk07 := hk03.tr hk37
 have hgw : w.heap.size ≤ g := by have := (hk03.tr (hS.tr hk5)).size; omega
 have hbw : w.heap.size ≤ b := by have := (hk03.tr ((hS.tr hk5).tr hk6)).size; omega
 have hG7 := hk7.blk hG6 (by simp)
 have hZ7 := hk37.blk hZ3 (by simp)
 obtain ⟨C, hCe⟩ : ∃ C : Kx, C = ⟨vs, body, F, inp, fu, w, b, .slice av vs.length capv, .slice ab body.length capb, .slice (some ⟨g, 0, none⟩) (sumV vs).toNat (sumV vs).toNat⟩ := ⟨_, rfl⟩
 have hC : C.Ok := by
  rw [hCe]
  exact ⟨hp0, hF, hszs, hv8, by show sumV vs ≤ 48; omega, by show fu ≤ 3000; omega, hl1, hbw⟩
 have h7 : Rt C w7 (es0 (sumV vs).toNat) := by
  rw [hCe]
  refine ⟨.slice ia inp.length icap, .slice none 0 0, hk07, hB7, ⟨ia, icap, rfl, hic, Nat.zero_le _, fun h0 => ?_⟩, ⟨by rw [lgs_length]; simp [es0], .inr ⟨g, (sumV vs).toNat, List.replicate (sumV vs).toNat (.int .i64 0), by simp [es0], hgw, hG7, by simp [es0], by simp, ?_⟩⟩, RowL.nil _ _, fun k _ hm => by simp [obs, Value.ownBlock] at hm, by simp [es0]; omega, Nat.zero_le _, Nat.le_refl _⟩
  ·exact hir h0
  ·simp [es0, lgs]
 have hRun := iRun_ret hC (by rw [hCe]; exact hsz) (by rw [hCe]; exact hrn) h7
 have hCb : C.b = b := by rw [hCe]
 have hCX : evP C.vs C.inp C.fuel C.bd (es0 (sumV vs).toNat) = saysX vs body inp fu := by rw [hCe]; rfl
 rw [hCb, hCX] at hRun
 refine au ?_
 refine pl_op rfl rfl (opTo_call (fst := []) (cap := []) rfl rfl rfl rfl (by decide +kernel) (hRun.mono ?_))
 rintro r w8 ⟨c, s8, rfl, hres, ⟨u8, o8, h8⟩, hR8⟩
 have hZ8 := hR8.blk hZ7 neReRu neReLg
 rw [← hres]
 have h8c := h8.rc
 have h8o := h8.ro
 have h8b := h8.bk
 have h8k := h8.kp
 have h8l := h8.cl
 rw [hCe] at h8c h8o h8b h8k h8l
 dsimp only at h8c h8o h8b h8k h8l
 obtain ⟨oa, oc, rfl⟩ := h8o.form
 have hxb : x6 ≠ b := Blk.ne hZ8 h8b neReRu
 refine au ?_
 refine rn_draw (fun w' => Keep [x6] w8 w') [] hMix ?_
 have hS8 : Keep [x6] w8 w8.drew := (Keep.refl _ _).drew
 have hS0 : Keep [] w8 w8.drew := (Keep.refl _ _).drew
 generalize w8.drew = w9 at *
 refine tk 0 ?_
 refine tk 1 ?_
 refine tk 2 ?_
 refine tk 3 ?_
 refine dr_val 4 (.slice oa s8.out.length oc) rfl (by decide +kernel) rfl rfl (fun w9 hS9 => val_load1 hT rfl rfl rfl ((hS9.blk h8b (by simp; exact hxb.symm)).cell rfl)) hS8 ?_
 refine tk 5 ?_
 refine tk 6 ?_
 refine tk 7 ?_
 refine dr_val 8 (.slice (some ⟨g, 0, none⟩) (sumV vs).toNat (sumV vs).toNat) rfl (by decide +kernel) rfl rfl (fun w9 hS9 => val_load1 hT rfl rfl rfl ((hS9.blk h8b (by simp; exact hxb.symm)).cell rfl)) hS8 ?_
 refine dr_any 9 _ rfl (by decide +kernel) rfl rfl (fun w => val_build _ rfl rfl (built_ir3 (c : Nat) oa (some ⟨g, 0, none⟩) s8.out.length oc (sumV vs).toNat (sumV vs).toNat) w) ?_
 refine tk 10 ?_
 refine tk 11 ?_
 refine tk 12 ?_
 refine tk 13 ?_
 refine dr_val 14 (.int .i64 (s8.n : Nat)) rfl (by decide +kernel) rfl rfl (fun w9 hS9 => val_load1 hT rfl rfl rfl ((hS9.blk h8b (by simp; exact hxb.symm)).cell rfl)) hS8 ?_
 have hZ9 := hS0.blk hZ8 (by simp)
 refine dr_op 15 rfl (by decide +kernel) rfl rfl (opTo_storeN (resC (c : Nat) (.slice oa s8.out.length oc) (.slice (some ⟨g, 0, none⟩) (sumV vs).toNat (sumV vs).toNat)) rfl rfl rfl rfl size_re hZ9 (by simp [resC]) (resC_one _ _ _ _ _ _ _) ?_)
 intro w10 hs10 hk10 hZ10
 rw [splice_whole (by rfl)] at hZ10
 refine ⟨fun _ => hS8.tr hk10, ?_⟩
 refine tk 16 ?_
 refine tk 17 ?_
 refine dr_done (by decide +kernel) ?_
 have hk8 : Keep [x6] w8 w10 := hS8.tr hk10
 have ho10 := h8o.keep hk8 (h8o.ne hZ8 neReLg)
 have hc10 := h8c.keep hk8 (h8c.ne hZ8 neReLg)
 have hcap := ho10.cap
 refine au ?_
 refine rn_retCTT Tryz.func100 rfl rfl (blk_loadVar hT hZ10 rfl) rfl rfl ⟨⟨.slice oa s8.out.length oc, .slice (some ⟨g, 0, none⟩) (sumV vs).toNat (sumV vs).toNat, rfl, ⟨ho10.lies, fun a n cap he => ?_⟩, hc10.lies, fun k q n c he _ => ?_, fun k q n c he _ => ?_⟩, h8k.trB hk8 hx6w⟩
 ·injection he with e1 e2 e3
  rw [← e2, ← e3]
  exact hcap
 ·exact (h8o.lt k (by rw [he]; simp [obs, Value.ownBlock])).1
 ·exact (h8c.lt k (by rw [he]; simp [obs, Value.ownBlock])).1
theorem idC : IdC := ⟨fun fuel hp hF hi hv hs hl => ideal_run fuel hp hF hi hv hs hl⟩
end
section
open Go.Proofs
abbrev Wr := Nat × List Int
def wcell (p : Wr) : List Value := .int .i64 p.1 :: ints p.2
def wcells (L : List Wr) : List Value := L.flatMap wcell
def hasB (i : Int) : Bool := decide (0 ≤ i) && decide (i < 34)
theorem dHas_ret (i : Int) (w : World) : Ret Tryz.prog 259 [.int .i64 i] w fun v w' => v = .bool (hasB i) ∧ w' = w := by
 refine ret_of 9 Tryz.func259 rfl rfl (by simp) ?_
 refine au ?_
 by_cases h0 : 0 ≤ i
 ·refine pl_val (.bool true) rfl rfl (val_int .i64 i 0 _ rfl rfl rfl (by simp [intOp, h0]) w) ?_
  refine au ?_
  refine pl_val (.bool (decide (i < 34))) rfl rfl (val_int .i64 i 34 _ rfl rfl rfl (by simp [intOp]) w) ?_
  refine au ?_
  refine rn_ret Tryz.func259 (.inl ⟨_, rfl, rfl⟩) ⟨?_, rfl⟩
  simp [hasB, h0]
 ·refine pl_val (.bool false) rfl rfl (val_int .i64 i 0 _ rfl rfl rfl (by simp [intOp, h0]) w) ?_
  refine au ?_
  refine rn_ret Tryz.func259 (.inl ⟨_, rfl, rfl⟩) ⟨?_, rfl⟩
  simp [hasB, h0]
structure DiskV (B : Nat) (w : World) (d : Nat) (S : List Int) (L : List Wr) (wv : Value) : Prop where
 blk : Blk w d (ints S ++ [wv]) 258
 owns : w.ownsRow B 320 9 wv L.length (wcells L)
 ne : wv.ownBlock ≠ some d
 len : S.length = 272
 base : B ≤ d
 wf : ∀ p ∈ L, p.1 < 34 ∧ p.2.length = 8
def fpD (d : Nat) (wv : Value) : List Nat := d :: wv.ownBlock.toList
theorem DiskV.keep {B : Nat} {w w' : World} {d : Nat} {S : List Int} {L : List Wr} {wv : Value} {fp : List Nat} (h : DiskV B w d S L wv) (hk : Keep fp w w') (hn : ∀ k ∈ fpD d wv, k ∉ fp) : DiskV B w' d S L wv :=
 ⟨hk.blk h.blk (hn d (by simp [fpD])), hk.owns h.owns fun k e => hn k (by simp [fpD, e]), h.ne, h.len, h.base, h.wf⟩
theorem DiskV.lt {B : Nat} {w : World} {d : Nat} {S : List Int} {L : List Wr} {wv : Value} (h : DiskV B w d S L wv) : ∀ k ∈ fpD d wv, B ≤ k ∧ k < w.heap.size := by
 intro k hk
 simp only [fpD, List.mem_cons, Option.mem_toList] at hk
 rcases hk with rfl | hk
 ·exact ⟨h.base, h.blk.lt⟩
 ·exact h.owns.lt k hk
theorem new_zero : (Tryz.prog.built 258 []) = some (ints (List.replicate 272 0) ++ [Value.slice none 0 0]).toArray := by kernel_rfl
theorem new_ret (w : World) : Ret Tryz.prog 133 [] w fun v w' => v = .pointer (some ⟨w.heap.size, 0, none⟩) ∧ DiskV w.heap.size w' w.heap.size (List.replicate 272 0) [] (.slice none 0 0) ∧ Keep [] w w' := by
 refine ret_of 3 Tryz.func133 rfl rfl (by simp) ?_
 refine au ?_
 refine pl_val _ rfl rfl (val_build (ints (List.replicate 272 0) ++ [Value.slice none 0 0]) rfl rfl new_zero w) ?_
 refine pl_op rfl rfl (opTo_box _ rfl rfl rfl ?_)
 refine au ?_
 refine rn_ret Tryz.func133 (.inl ⟨_, rfl, rfl⟩) ⟨rfl, ⟨Blk.new w _ _, World.ownsRow_nil _ _ _ _, by simp [Value.ownBlock], List.length_replicate, Nat.le_refl _, by simp⟩, (Keep.refl _ _).alloc _⟩
theorem flush1_ret (i : Int) (w : World) : Ret Tryz.prog 290 [.int .i64 i] w fun v w' => v = .bool true ∧ w' = w := by
 refine ret_of 3 Tryz.func290 rfl rfl (by simp) ?_
 refine au ?_
 exact rn_ret Tryz.func290 (.inl ⟨_, rfl, rfl⟩) ⟨rfl, rfl⟩
end
section
open Go.Proofs
theorem built_write (i : Int) {ws : List Int} (h : ws.length = 8) : Tryz.prog.built 320 [(0, Value.int .i64 i), (1, Value.agg (ints ws).toArray)] = some (Value.int .i64 i :: ints ws).toArray := by
 obtain ⟨a, b, c, d, e, f, g, j, rfl⟩ := list8 h
 kernel_rfl
theorem slice_write (i : Int) {ws : List Int} (h : ws.length = 8) : sliceCells Tryz.prog 256 1 [(0, Value.agg (Value.int .i64 i :: ints ws).toArray)] = some (320, (Value.int .i64 i :: ints ws).toArray) := by
 obtain ⟨a, b, c, d, e, f, g, j, rfl⟩ := list8 h
 kernel_rfl
theorem splice_last {S : List Int} (h : S.length = 272) (u v : Value) : splice (ints S ++ [u]) (0 + 272) [v] = ints S ++ [v] := by
 have hl : (ints S).length = 272 := by rw [ints_length, h]
 simp [splice, hl]
theorem wcells_snoc (L : List Wr) (p : Wr) : wcells (L ++ [p]) = wcells L ++ wcell p := by simp [wcells]
theorem write_ret {B : Nat} {w : World} {d : Nat} {S : List Int} {L : List Wr} {wv : Value} (h : DiskV B w d S L wv) (i : Int) {ws : List Int} (hw : ws.length = 8) (hL : L.length < 1000000) :
  Ret Tryz.prog 289 [.pointer (some ⟨d, 0, none⟩), .int .i64 i, .agg (ints ws).toArray] w fun v w' => v = .bool (hasB i) ∧
   ∃ wv', DiskV B w' d S (if hasB i then L ++ [(i.toNat, ws)] else L) wv' ∧ Keep (fpD d wv) w w' ∧ ∀ k ∈ fpD d wv', k ∈ fpD d wv ∨ w.heap.size ≤ k := by
 refine ret_of 22 Tryz.func289 rfl rfl (by simp) ?_
 refine au ?_
 refine pl_op rfl rfl (opTo_box (ints ws) rfl rfl rfl ?_)
 refine au ?_
 refine pl_op rfl rfl (opTo_call rfl rfl rfl rfl (by decide +kernel) ((dHas_ret i _).mono ?_))
 rintro v w1 ⟨rfl, rfl⟩
 have hk1 : Keep [] w (w.alloc (.cells (ints ws).toArray 254)) := (Keep.refl _ _).alloc _
 cases hb : hasB i with
 | false =>
  refine au ?_
  exact rn_ret Tryz.func289 (.inl ⟨_, rfl, rfl⟩) ⟨rfl, wv, h.keep hk1 (by simp), hk1.of0, fun k hk => .inl hk⟩
 | true =>
  refine au ?_
  have hbx : Blk (w.alloc (.cells (ints ws).toArray 254)) w.heap.size (ints ws) 254 := Blk.new _ _ _
  have h1 : DiskV B (w.alloc (.cells (ints ws).toArray 254)) d S L wv := h.keep hk1 (by simp)
  have hlt := h.lt
  have hsz : (w.alloc (.cells (ints ws).toArray 254)).heap.size = w.heap.size + 1 := World.size_alloc _ _
  generalize (w.alloc (.cells (ints ws).toArray 254)) = w1 at *
  have hd1 : d ∉ wv.ownBlock.toList := by simpa using h.ne
  have hx1 : w.heap.size ∉ wv.ownBlock.toList := fun hm => by
   have := (hlt w.heap.size (by simp only [fpD, List.mem_cons]; exact .inr hm)).2
   omega
  have hS : Keep wv.ownBlock.toList w1 w1.drew := (Keep.refl _ _).drew
  refine rn_draw (fun w' => Keep wv.ownBlock.toList w1 w') [10, 11, 12] hMix ?_
  refine tk 0 ?_
  refine tk 1 ?_
  refine tk 2 ?_
  refine tk 3 ?_
  refine dr_val 4 wv rfl (by decide +kernel) rfl rfl (fun w' hk => val_load1 hT rfl rfl rfl ((hk.blk h1.blk hd1).cell (by simp [h1.len, ints_length]))) hS ?_
  refine tk 5 ?_
  refine dr_val 6 (.agg (ints ws).toArray) rfl (by decide +kernel) rfl rfl (fun w' hk => val_load (ints ws) hT rfl rfl (by simp [ints_length, hw]; rfl) ((hk.blk hbx hx1).range (by simp))) hS ?_
  refine dr_val 7 (.agg (.int .i64 i :: ints ws).toArray) rfl (by decide +kernel) rfl rfl (fun w' _ => val_build _ rfl rfl (built_write i hw) w') hS ?_
  refine dr_op 8 rfl (by decide +kernel) rfl rfl (opTo_buildSlice _ _ rfl rfl (slice_write i hw) ⟨fun _ => hS.alloc _, ?_⟩)
  have hS2 : Keep wv.ownBlock.toList w1 (w1.drew.alloc (.cells (.int .i64 i :: ints ws).toArray 320)) := hS.alloc _
  have hK2 : Keep [] w1 (w1.drew.alloc (.cells (.int .i64 i :: ints ws).toArray 320)) := ((Keep.refl _ _).drew).alloc _
  have hbl : Blk (w1.drew.alloc (.cells (.int .i64 i :: ints ws).toArray 320)) w1.heap.size (.int .i64 i :: ints ws) 320 := Blk.new w1.drew _ _
  have hsz2 : (w1.drew.alloc (.cells (.int .i64 i :: ints ws).toArray 320)).heap.size = w1.heap.size + 1 := World.size_alloc _ _
  refine dr_op 9 rfl (by decide +kernel) rfl rfl (opTo_append B 320 9 72 (wcells L) (.int .i64 i :: ints ws) rfl rfl rfl (by decide +kernel) (by decide) (hK2.owns h1.owns (by simp)) (hbl.range (by simp))
   (by simp [ints_length, hw]) (by intro u hu; rcases List.mem_cons.1 hu with rfl | hu; rfl; exact ints_one ws u hu) (by decide) (by unfold maxLen; omega) (by omega) (by have := h.base; have := h.blk.lt; omega) ?_)
  intro g cap w3 hown hgrow hat hlt3
  have hS3 : Keep wv.ownBlock.toList w1 w3 := hS2.grown hgrow fun k e => .inl (by simp [e])
  refine ⟨fun _ => hS3, ?_⟩
  refine dr_switch (fun _ => True) [] (by decide +kernel) ?_
  have hTr : True := trivial
  refine tk 10 ?_
  refine tk 11 ?_
  have hb3 := hS3.blk h1.blk hd1
  refine dr_op 12 rfl (by decide +kernel) rfl rfl (opTo_store _ rfl rfl rfl rfl (by kernel_rfl) hb3 (by simp [ints_length, h1.len]) (by simp; rfl) ⟨fun _ => trivial, ?_⟩)
  rw [splice_last h1.len]
  refine dr_done (by decide +kernel) ?_
  refine au ?_
  have hgd : g ≠ d := fun e => by
   rcases hat with hat | hat
   ·exact h.ne (e ▸ hat)
   ·have := h.blk.lt; omega
  have hKw : Keep (fpD d wv) w w3 := (hk1.of0).tr (hS3.mono fun k hk => .inl (by simp only [fpD, List.mem_cons]; exact .inr hk))
  refine rn_ret Tryz.func289 (.inl ⟨_, rfl, rfl⟩) ⟨rfl, .slice (some ⟨g, 0, none⟩) (L.length + 1) cap, ⟨hb3.set _, ?_, ?_, h.len, h.base, ?_⟩, hKw.setRow d _ (.inl (by simp [fpD])), ?_⟩
  ·simp only [if_true, List.length_append, List.length_singleton, wcells_snoc]
   have hi : (i.toNat : Int) = i := by
    have := hb
    simp [hasB] at this
    omega
   have hc : wcell (i.toNat, ws) = .int .i64 i :: ints ws := by simp [wcell, hi]
   rw [hc]
   exact Keep.owns ((Keep.refl [d] w3).setRow d _ (.inl (by simp))) hown fun k e => by
    simp only [Value.ownBlock, Option.some.injEq] at e
    simp only [List.mem_singleton]
    omega
  ·simp only [Value.ownBlock, ne_eq, Option.some.injEq]
   exact hgd
  ·intro p hp
   simp only [if_true, List.mem_append, List.mem_singleton] at hp
   rcases hp with hp | rfl
   ·exact h.wf p hp
   ·have := hb
    simp [hasB] at this
    exact ⟨by show i.toNat < 34; omega, hw⟩
  ·intro k hk
   simp only [fpD, Value.ownBlock, Option.toList_some, List.mem_cons, List.not_mem_nil, or_false] at hk
   rcases hk with rfl | rfl
   ·exact .inl (by simp [fpD])
   ·rcases hat with hat | hat
    ·exact .inl (by simp [fpD, hat])
    ·exact .inr (by omega)
end
section
open Go.Proofs
def maskB (mask : Int) (i : Nat) : Bool := IntKind.u64.wrap (BitVec.ofInt 64 (mask.fdiv (2 ^ (i % 64))) &&& BitVec.ofInt 64 1).toNat == 1
theorem crash1_ret {w : World} {c : Nat} {mask : Int} {e : TypeId} (hc : Blk w c [.int .u64 mask] e) (i : Nat) :
  Ret Tryz.prog 213 [.int .i64 i, .pointer (some ⟨c, 0, none⟩)] w fun v w' => v = .bool (maskB mask i) ∧ w' = w := by
 refine ret_of 10 Tryz.func213 rfl rfl (by simp) ?_
 refine au ?_
 refine pl_val (.int .u64 mask) rfl rfl (val_load1 hT rfl rfl rfl (hc.cell rfl)) ?_
 refine au ?_
 refine pl_val (.int .i64 ((i % 64 : Nat) : Int)) rfl rfl (val_int .i64 i 64 _ rfl rfl rfl (by simp [intOp]; rfl) w) ?_
 refine pl_val _ rfl rfl (val_shr .u64 .i64 mask ((i % 64 : Nat) : Int) (mask.fdiv (2 ^ (i % 64))) rfl rfl rfl (by omega) (by
  rw [Int.toNat_natCast, show IntKind.u64.bits = 64 from rfl, Nat.min_eq_left (by omega)]) w) ?_
 refine pl_val _ rfl rfl (val_int .u64 _ 1 _ rfl rfl rfl rfl w) ?_
 refine pl_val _ rfl rfl (val_int .u64 _ 1 _ rfl rfl rfl rfl w) ?_
 refine au ?_
 exact rn_ret Tryz.func213 (.inl ⟨_, rfl, rfl⟩) ⟨rfl, rfl⟩
theorem wcell_length {p : Wr} (h : p.2.length = 8) : (wcell p).length = 9 := by simp [wcell, ints_length, h]
theorem DiskV.at {B : Nat} {w : World} {d : Nat} {S : List Int} {L : List Wr} {wv : Value} (h : DiskV B w d S L wv) {j : Nat} {p : Wr} (hp : L[j]? = some p) :
  ∃ g cap, wv = .slice (some ⟨g, 0, none⟩) L.length cap ∧ w.rangeAt g (0 + j * 9) (wcell p) := by
 have hlt : j < L.length := (List.getElem?_eq_some_iff.1 hp).1
 have hm : p ∈ L := List.mem_of_getElem? hp
 rcases h.owns.2 with ⟨_, h2⟩ | ⟨g, cap, cur, hv, _⟩
 ·omega
 ·refine ⟨g, cap, hv, ?_⟩
  have ho := h.owns
  rw [hv] at ho
  refine owns_range ho ?_
  rw [wcell_length (h.wf p hm).2, Nat.zero_add]
  exact flat_at (fun q hq => wcell_length (h.wf q hq).2) hp
theorem zero_write : ((Tryz.prog.info? 320).bind (·.zero)).map (·.cells) = some (wcell (0, List.replicate 8 0)).toArray := by kernel_rfl
theorem zero_words : ((Tryz.prog.info? 254).bind (·.zero)).map (·.cells) = some (ints (List.replicate 8 0)).toArray := by kernel_rfl
theorem built_words0 : Tryz.prog.built 254 [] = some (ints (List.replicate 8 0)).toArray := by kernel_rfl
theorem splice_all {L vs : List Value} (h : vs.length = L.length) : splice L 0 vs = vs := by
 simp [splice, h]
theorem wcell_one (p : Wr) : ∀ u ∈ wcell p, u.oneCell' = true := by
 intro u hu
 rcases List.mem_cons.1 hu with rfl | hu
 ·rfl
 ·exact ints_one p.2 u hu
end
end E
end Go.Proofs.YtoigoojdbpbhoagGreatDoor
