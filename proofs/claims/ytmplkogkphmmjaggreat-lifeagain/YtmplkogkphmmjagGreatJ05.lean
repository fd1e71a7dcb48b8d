/- Several texts in one: CoM, CoC, CoC2, CoD, CoE, CoF, CoG, CmK. -/
import Derived.Test.YtmplkogkphmmjagGreatJ04
/- Mathematics of a check that is handed part by part: what one look tells, and that the looks one behind the other are what chkE, chkS tell. -/
namespace Go.Proofs.YtmplkogkphmmjagGreat
set_option maxRecDepth 20000
set_option maxHeartbeats 4000000
namespace E

def knownE (op : Int) : Bool := decide (0 ≤ partsOf op)
def fitsE (op n : Int) (len : Nat) : Bool := decide ((len : Int) = partsOf op) && (op == 1 || n == 0)
def namedE (op : Int) : Bool := op == 2 || op == 3
def knownS (op : Int) : Bool := decide (1 ≤ op) && decide (op ≤ 7)
def fitsS (op : Int) (e f : ET) (lb lo : Nat) : Bool := (((needE op || zeroE e) && (needF op || zeroE f)) && (needB op || (lb : Int) == 0)) && (needO op || (lo : Int) == 0)

/-- What a look tells of one part, with k parts met ahead of it. -/
def lookK (nv k : Nat) (deep : Int) (known fits named : Bool) (v : Int) : Int :=
  if deep > 12 then 4 else if k + 1 > 150 then 3 else if known = false then 2 else if fits = false then 5 else varK nv v named

theorem look_room {nv k : Nat} {deep : Int} {a b c : Bool} {v : Int} (h : lookK nv k deep a b c v = 0) : k + 1 ≤ 150 ∧ deep ≤ 12 := by
  unfold lookK at h
  split at h
  · cases h
  · split at h
    · cases h
    · omega

theorem ownE_look (nv : Nat) (op v n : Int) (len : Nat) : ownE nv op v n len = if knownE op = false then 2 else if fitsE op n len = false then 5 else varK nv v (namedE op) := by
  unfold ownE knownE fitsE namedE
  by_cases h1 : partsOf op < 0
  · have : ¬ 0 ≤ partsOf op := by omega
    simp [h1, this]
  · have h1' : 0 ≤ partsOf op := by omega
    simp only [h1, if_false, h1', decide_true, Bool.true_eq_false]
    by_cases h2 : (len : Int) = partsOf op
    · by_cases h3 : op = 1
      · simp [h2, h3]
      · by_cases h4 : n = 0
        · simp [h2, h3, h4]
        · simp [h2, h3, h4]
    · have h2' : partsOf op ≠ (len : Int) := fun h => h2 h.symm
      simp [h2, h2']
theorem ownS_look (nv : Nat) (op v : Int) (e f : ET) (lb lo : Nat) : ownS nv op v e f lb lo = if knownS op = false then 2 else if fitsS op e f lb lo = false then 5 else varK nv v (needV op) := by
  unfold ownS knownS fitsS
  by_cases h1 : op < 1 ∨ op > 7
  · rw [if_pos h1, if_pos]
    simp
    omega
  · have hk : (decide (1 ≤ op) && decide (op ≤ 7)) = true := by simp; omega
    rw [if_neg h1, hk]
    simp only [Bool.true_eq_false, if_false]
    have e1 : ((lb : Int) == 0) = !decide (0 < lb) := by rw [Bool.eq_iff_iff]; simp
    have e2 : ((lo : Int) == 0) = !decide (0 < lo) := by rw [Bool.eq_iff_iff]; simp
    rw [e1, e2]
    cases needE op <;> cases zeroE e <;> cases needF op <;> cases zeroE f <;> cases needB op <;> cases decide (0 < lb) <;> cases needO op <;> cases decide (0 < lo) <;> rfl

theorem chkE_look (nv deep k : Nat) (op v n : Int) (l : List ET) : chkE nv (.mk op v n l) deep k = if lookK nv k deep (knownE op) (fitsE op n l.length) (namedE op) v ≠ 0 then .error (lookK nv k deep (knownE op) (fitsE op n l.length) (namedE op) v) else chkEs nv l (deep + 1) (k + 1) := by
  simp only [chkE, headK, lookK]
  by_cases h1 : deep > 12
  · have h1' : (deep : Int) > 12 := by omega
    simp [h1, h1', nextK]
  · have h1' : ¬ (deep : Int) > 12 := by omega
    by_cases h2 : k + 1 > 150
    · simp only [h1, h1', h2, if_true, if_false, nextK]
      rfl
    · simp only [h1, h1', h2, if_false, nextK, ownE_look]
theorem chkS_look (nv deep k : Nat) (op v : Int) (e f : ET) (b o : List ST) : chkS nv (.mk op v e f b o) deep k = if lookK nv k deep (knownS op) (fitsS op e f b.length o.length) (needV op) v ≠ 0 then .error (lookK nv k deep (knownS op) (fitsS op e f b.length o.length) (needV op) v) else
    nextK (if needE op then chkE nv e (deep + 1) (k + 1) else .ok (k + 1)) fun k2 => nextK (if needF op then chkE nv f (deep + 1) k2 else .ok k2) fun k3 => nextK (chkSs nv b (deep + 1) k3) fun k4 => chkSs nv o (deep + 1) k4 := by
  simp only [chkS, headK, lookK]
  by_cases h1 : deep > 12
  · have h1' : (deep : Int) > 12 := by omega
    simp [h1, h1', nextK]
  · have h1' : ¬ (deep : Int) > 12 := by omega
    by_cases h2 : k + 1 > 150
    · simp only [h1, h1', h2, if_true, if_false, nextK]
      rfl
    · simp only [h1, h1', h2, if_false, nextK, ownS_look]

/-- The expressions of a statement. -/
def els (op : Int) (e f : ET) : List ET := (if needE op then [e] else []) ++ (if needF op then [f] else [])
theorem nextK_assoc (x : Except Int Nat) (f g : Nat → Except Int Nat) : nextK (nextK x f) g = nextK x fun k => nextK (f k) g := by cases x <;> rfl
theorem nextK_one (k : Nat) (f : Nat → Except Int Nat) : nextK (.ok k) f = f k := rfl
theorem nextK_id (x : Except Int Nat) : nextK x (fun k => .ok k) = x := by cases x <;> rfl
theorem chkEs_els (nv : Nat) (op : Int) (e f : ET) (d k : Nat) : chkEs nv (els op e f) d k = nextK (if needE op then chkE nv e d k else .ok k) fun k2 => if needF op then chkE nv f d k2 else .ok k2 := by
  unfold els
  cases needE op <;> cases needF op <;> simp [chkEs, nextK_one, nextK_id]
theorem chkS_parts (nv deep k : Nat) (op v : Int) (e f : ET) (b o : List ST) (h : lookK nv k deep (knownS op) (fitsS op e f b.length o.length) (needV op) v = 0) : chkS nv (.mk op v e f b o) deep k =
    nextK (chkEs nv (els op e f) (deep + 1) (k + 1)) fun k3 => nextK (chkSs nv b (deep + 1) k3) fun k4 => chkSs nv o (deep + 1) k4 := by
  rw [chkS_look, if_neg (by simp [h]), chkEs_els, nextK_assoc]

theorem chkEs_append (nv : Nat) : ∀ (a b : List ET) (d k : Nat), chkEs nv (a ++ b) d k = nextK (chkEs nv a d k) fun k1 => chkEs nv b d k1
  | [], b, d, k => by simp [chkEs, nextK]
  | t :: r, b, d, k => by
    simp only [List.cons_append, chkEs, nextK_assoc]
    congr 1
    funext k1
    exact chkEs_append nv r b d k1
theorem chkSs_append (nv : Nat) : ∀ (a b : List ST) (d k : Nat), chkSs nv (a ++ b) d k = nextK (chkSs nv a d k) fun k1 => chkSs nv b d k1
  | [], b, d, k => by simp [chkSs, nextK]
  | t :: r, b, d, k => by
    simp only [List.cons_append, chkSs, nextK_assoc]
    congr 1
    funext k1
    exact chkSs_append nv r b d k1
theorem chkEs_at {nv d k ki i : Nat} {l : List ET} {t : ET} (ht : l[i]? = some t) (h : chkEs nv (l.take i) d k = .ok ki) :
    chkEs nv (l.take (i + 1)) d k = chkE nv t d ki ∧ ∀ c, chkE nv t d ki = .error c → chkEs nv l d k = .error c := by
  obtain ⟨hlt, e⟩ := List.getElem?_eq_some_iff.1 ht
  refine ⟨?_, fun c hc => ?_⟩
  · rw [List.take_succ_eq_append_getElem hlt, chkEs_append, h, e]
    simp only [nextK, chkEs]
    exact nextK_id _
  · have : l = l.take i ++ t :: l.drop (i + 1) := by rw [← e, ← List.drop_eq_getElem_cons hlt, List.take_append_drop]
    rw [this, chkEs_append, h]
    simp only [nextK, chkEs, hc]
theorem chkSs_at {nv d k ki i : Nat} {l : List ST} {t : ST} (ht : l[i]? = some t) (h : chkSs nv (l.take i) d k = .ok ki) :
    chkSs nv (l.take (i + 1)) d k = chkS nv t d ki ∧ ∀ c, chkS nv t d ki = .error c → chkSs nv l d k = .error c := by
  obtain ⟨hlt, e⟩ := List.getElem?_eq_some_iff.1 ht
  refine ⟨?_, fun c hc => ?_⟩
  · rw [List.take_succ_eq_append_getElem hlt, chkSs_append, h, e]
    simp only [nextK, chkSs]
    exact nextK_id _
  · have : l = l.take i ++ t :: l.drop (i + 1) := by rw [← e, ← List.drop_eq_getElem_cons hlt, List.take_append_drop]
    rw [this, chkSs_append, h]
    simp only [nextK, chkSs, hc]

/-! ### No more parts than may be -/
def Lid (f : Nat → Except Int Nat) : Prop := ∀ k k', k ≤ 150 → f k = .ok k' → k' ≤ 150
mutual
theorem boundE (nv : Nat) : ∀ t d, Lid (chkE nv t d)
  | .mk op v n l, d => fun k k' hk h => by
    rw [chkE_look] at h
    split at h
    · cases h
    · rename_i hz
      have := (look_room (by simpa using hz)).1
      exact boundEs nv l (d + 1) (k + 1) k' this h
theorem boundEs (nv : Nat) : ∀ l d, Lid (chkEs nv l d)
  | [], d => fun k k' hk h => by
    simp only [chkEs] at h
    injection h with h
    omega
  | t :: r, d => fun k k' hk h => by
    simp only [chkEs] at h
    obtain ⟨k1, h1, h2⟩ := nextK_ok h
    exact boundEs nv r d k1 k' (boundE nv t d k k1 hk h1) h2
end
mutual
theorem boundS (nv : Nat) : ∀ t d, Lid (chkS nv t d)
  | .mk op v e f b o, d => fun k k' hk h => by
    by_cases hz : lookK nv k d (knownS op) (fitsS op e f b.length o.length) (needV op) v = 0
    · rw [chkS_parts _ _ _ _ _ _ _ _ _ hz] at h
      obtain ⟨k1, h1, h2⟩ := nextK_ok h
      obtain ⟨k2, h3, h4⟩ := nextK_ok h2
      have := (look_room hz).1
      exact boundSs nv o (d + 1) k2 k' (boundSs nv b (d + 1) k1 k2 (boundEs nv _ (d + 1) (k + 1) k1 this h1) h3) h4
    · rw [chkS_look, if_pos hz] at h
      cases h
theorem boundSs (nv : Nat) : ∀ l d, Lid (chkSs nv l d)
  | [], d => fun k k' hk h => by
    simp only [chkSs] at h
    injection h with h
    omega
  | t :: r, d => fun k k' hk h => by
    simp only [chkSs] at h
    obtain ⟨k1, h1, h2⟩ := nextK_ok h
    exact boundSs nv r d k1 k' (boundS nv t d k k1 hk h1) h2
end
end E
end Go.Proofs.YtmplkogkphmmjagGreat

/- Contracts of exprPart, stmtPart, exprsOf: what an expression, a statement is looked at for. -/
namespace Go.Proofs.YtmplkogkphmmjagGreat
set_option maxRecDepth 20000
set_option maxHeartbeats 4000000
namespace E
open Go.Proofs

def partL (deep : Int) (known fits named : Bool) (v : Int) : List Value := [.int .i64 deep, .bool known, .bool fits, .bool named, .int .i64 v]
def partZ : List Value := partL 0 false false false 0
theorem zero_part : ((Tryz.prog.info? 129).bind (·.zero)).map (·.cells) = some partZ.toArray := by kernel_rfl
theorem built_part (d : Int) (a b c : Bool) (v : Int) : Tryz.prog.built 129 [(0, .int .i64 d), (1, .bool a), (2, .bool b), (3, .bool c), (4, .int .i64 v)] = some (partL d a b c v).toArray := by kernel_rfl
theorem part_one (d : Int) (a b c : Bool) (v : Int) : ∀ u ∈ partL d a b c v, u.oneCell' = true := by
  intro u hu
  simp [partL] at hu
  rcases hu with rfl | rfl | rfl | rfl | rfl <;> rfl


theorem exprPart_ret {F : Nat → Prop} {w : World} {op v n : Int} {l : List ET} {lv : Value} (hl : ExprsV F w lv l) (deep : Int) :
    Ret Tryz.prog 93 [.agg #[.int .i64 op, .int .i64 v, .int .i64 n, lv], .int .i64 deep] w fun r w' => r = .agg (partL deep (knownE op) (fitsE op n l.length) (namedE op) v).toArray ∧ Keep [] w w' := by
  obtain ⟨a, cap, rfl⟩ := hl.form
  refine ret_of 38 Tryz.func93 rfl rfl (by simp) ?_
  refine au ?_
  refine pl_op rfl rfl (opTo_boxN [.int .i64 op, .int .i64 v, .int .i64 n, .slice a l.length cap] rfl rfl rfl ?_)
  intro w1 b hb hs1 hk1 hb1
  refine pl_op rfl rfl (opTo_allocN _ rfl zero_part ?_)
  intro w2 c hc hs2 hk2 hc2
  have hb2 := hk2.blk hb1 (by simp)
  refine au ?_
  refine rn_draw (fun w' => Keep [] w2 w' ∧ Blk w' b [.int .i64 op, .int .i64 v, .int .i64 n, .slice a l.length cap] 94) [33] hMix ?_
  have hS : Keep [] w2 w2.drew ∧ Blk w2.drew b [.int .i64 op, .int .i64 v, .int .i64 n, .slice a l.length cap] 94 := ⟨(Keep.refl _ _).drew, hb2.drew⟩
  have hkw : Keep [] w w2.drew := (hk1.tr hk2).drew
  have hc3 := hc2.drew
  have hsz : w.heap.size ≤ c := by have := hk1.size; omega
  generalize w2.drew = w3 at *
  have hlen : (l.length : Int) = partsOf op ∨ (l.length : Int) ≠ partsOf op := by omega
  have hp : op = 1 ∨ op = 2 ∨ (op ≠ 1 ∧ op ≠ 2) := by omega
  clear hk1 hk2 hb1 hc2 hb2
  rcases hp with hp | hp | hp <;> rcases hlen with hlen | hlen
  all_goals
    refine dp 0 ?_
    refine dp 1 ?_
    refine dp 2 ?_
    refine dp 4 ?_
    refine dp 5 ?_
    refine dp 6 ?_
    refine dp 7 ?_
    refine dp 8 ?_
    refine dp 9 ?_
    refine dp 22 ?_
    refine dp 23 ?_
    refine dp 24 ?_
    refine dp 30 ?_
    refine dp 31 ?_
    refine dr_op 3 rfl (by decide +kernel) rfl rfl (opTo_call rfl rfl rfl rfl (by decide +kernel) ((parts_ret op w3).mono ?_))
    rintro v4 w4 ⟨rfl, rfl⟩
    refine ⟨fun _ => hS, ?_⟩
    refine dr_any 4 _ rfl (by decide +kernel) rfl rfl (fun w => val_int _ _ _ _ rfl rfl rfl (by rfl) w) ?_
    refine dr_op 10 rfl (by decide +kernel) rfl rfl (opTo_call rfl rfl rfl rfl (by decide +kernel) ((parts_ret op _).mono ?_))
    rintro v5 w5 ⟨rfl, rfl⟩
    refine ⟨fun _ => hS, ?_⟩
    refine dp 11 ?_
    refine dp 12 ?_
    refine dp 13 ?_
    refine dp 14 ?_
    refine dp 15 ?_
    refine dp 16 ?_
    refine dp 17 ?_
    refine dp 18 ?_
    try (refine dr_any 19 _ rfl (by decide +kernel) rfl rfl (fun w => val_int _ _ _ _ rfl rfl rfl (by rfl) w) ?_)
    refine dp 19 ?_
    refine dp 20 ?_
    refine dp 21 ?_
    refine dp 25 ?_
    refine dp 26 ?_
    refine dp 27 ?_
    try (refine dr_any 28 _ rfl (by decide +kernel) rfl rfl (fun w => val_int _ _ _ _ rfl rfl rfl (by rfl) w) ?_)
    refine dp 28 ?_
    refine dp 29 ?_
    refine dr_any 32 _ rfl (by decide +kernel) rfl rfl (fun w => val_build _ rfl rfl (built_part _ _ _ _ _) w) ?_
    refine dr_op 33 rfl (by decide +kernel) rfl rfl (opTo_storeN _ rfl rfl rfl rfl (by kernel_rfl) hc3 (by simp [partL, partZ]) (part_one _ _ _ _ _) ?_)
    intro w6 hs6 hk6 hc6
    refine ⟨fun h => absurd h (by simp), ?_⟩
    refine dr_done (by decide +kernel) ?_
    rw [splice_whole (by rfl)] at hc6
    refine rn_ret Tryz.func93 (.inr (.inr (.inl ⟨_, _, _, rfl, rfl, blk_loadVar hT hc6 rfl⟩))) ⟨?_, hkw.trB hk6 hsz⟩
    congr 2
    first
      | (subst hp; simp [partL, knownE, fitsE, namedE, hlen]; done)
      | (simp [partL, knownE, fitsE, namedE, hp, hlen]; done)
end E
end Go.Proofs.YtmplkogkphmmjagGreat

/- Contract of stmtPart: what a statement is looked at for. -/
namespace Go.Proofs.YtmplkogkphmmjagGreat
set_option maxRecDepth 20000
set_option maxHeartbeats 4000000
namespace E
open Go.Proofs


theorem stmtPart_ret {F : Nat → Prop} {w : World} {op v : Int} {e f : ET} {lb lo : List ST} {ce cf : List Value} {bv ov : Value} (hF : In F w) (he : ExprV F w ce e) (hf : ExprV F w cf f) (hb : StmtsV F w bv lb) (ho : StmtsV F w ov lo) (deep : Int) :
    Ret Tryz.prog 70 [.agg (scells op v ce cf bv ov).toArray, .int .i64 deep] w fun r w' => r = .agg (partL deep (knownS op) (fitsS op e f lb.length lo.length) (needV op) v).toArray ∧ Keep [] w w' := by
  obtain ⟨e0, e1, e2, e3, rfl⟩ := list4 he.length
  obtain ⟨f0, f1, f2, f3, rfl⟩ := list4 hf.length
  obtain ⟨ab, capb, rfl⟩ := hb.form
  obtain ⟨ao, capo, rfl⟩ := ho.form
  refine ret_of 64 Tryz.func70 rfl rfl (by simp) ?_
  refine au ?_
  refine pl_op rfl rfl (opTo_boxN [.int .i64 op, .int .i64 v, e0, e1, e2, e3, f0, f1, f2, f3, .slice ab lb.length capb, .slice ao lo.length capo] rfl rfl rfl ?_)
  intro w1 b hb0 hs1 hk1 hb1
  refine pl_op rfl rfl (opTo_allocN _ rfl zero_part ?_)
  intro w2 c hc hs2 hk2 hc2
  have hb2 := hk2.blk hb1 (by simp)
  refine au ?_
  refine pl_val _ rfl rfl (val_load1 hT rfl rfl rfl (hb2.cell rfl)) ?_
  obtain ⟨be, hbe⟩ : ∃ x, x = needE op := ⟨_, rfl⟩
  obtain ⟨bf, hbf⟩ : ∃ x, x = needF op := ⟨_, rfl⟩
  obtain ⟨bb, hbb⟩ : ∃ x, x = needB op := ⟨_, rfl⟩
  obtain ⟨bo, hbo⟩ : ∃ x, x = needO op := ⟨_, rfl⟩
  have hfit : fitsS op e f lb.length lo.length = ((((be || zeroE e) && (bf || zeroE f)) && (bb || (lb.length : Int) == 0)) && (bo || (lo.length : Int) == 0)) := by rw [hbe, hbf, hbb, hbo]; rfl
  have hR := has_ret op w2
  simp only [hasV, ← hbe, ← hbf, ← hbb, ← hbo] at hR
  refine pl_op rfl rfl (opTo_call rfl rfl rfl rfl (by decide +kernel) (hR.mono ?_))
  rintro v3 w3 ⟨rfl, rfl⟩
  refine au ?_
  refine rn_draw (fun w' => Keep [] w3 w' ∧ Blk w' b [.int .i64 op, .int .i64 v, e0, e1, e2, e3, f0, f1, f2, f3, .slice ab lb.length capb, .slice ao lo.length capo] 99) [45] hMix ?_
  have hS : Keep [] w3 w3.drew ∧ Blk w3.drew b [.int .i64 op, .int .i64 v, e0, e1, e2, e3, f0, f1, f2, f3, .slice ab lb.length capb, .slice ao lo.length capo] 99 := ⟨(Keep.refl _ _).drew, hb2.drew⟩
  have hkw : Keep [] w w3 := hk1.tr hk2
  have hsz : w.heap.size ≤ c := by have := hk1.size; omega
  have he3 := he.keep hkw hF.stays
  have hf3 := hf.keep hkw hF.stays
  have hF3 := hF.keep hkw
  generalize w3.drew = w4 at *
  clear hk1 hk2 hb1 hb2 hR hbe hbf hbb hbo
  rw [hfit]
  clear hfit
  refine dr_with 2 17592186044415 (fun σ' w' => ∃ kn x : Bool, kn = knownS op ∧ x = ((((be || zeroE e) && (bf || zeroE f)) && (bb || (lb.length : Int) == 0)) && (bo || (lo.length : Int) == 0)) ∧ (Keep [] w3 w' ∧ Blk w' b [.int .i64 op, .int .i64 v, e0, e1, e2, e3, f0, f1, f2, f3, .slice ab lb.length capb, .slice ao lo.length capo] 99) ∧ Sub ([(2, .pointer (some ⟨b, 0, none⟩)), (4, .pointer (some ⟨c, 0, none⟩)), (6, .bool bf), (8, .bool bb), (9, .bool bo), (19, .int .i64 deep), (27, .bool kn), (60, .bool (needV op)), (62, .int .i64 v), (59, .bool x)]) σ') ?_ ?_
  · rintro σ' w5 ⟨kn, x, rfl, hx, hS, hsub⟩
    refine dr_sub hsub ?_
    subst hx
    refine dr_any 44 _ rfl (by decide +kernel) rfl rfl (fun w => val_build _ rfl rfl (built_part _ _ _ _ _) w) ?_
    refine dr_op 45 rfl (by decide +kernel) rfl rfl (opTo_storeN _ rfl rfl rfl rfl (by kernel_rfl) (hS.1.blk hc2 (by simp)) (by simp [partL, partZ]) (part_one _ _ _ _ _) ?_)
    intro w6 hs6 hk6 hc6
    refine ⟨fun h => absurd h (by simp), ?_⟩
    refine dr_done (by decide +kernel) ?_
    rw [splice_whole (by rfl)] at hc6
    exact rn_ret Tryz.func70 (.inr (.inr (.inl ⟨_, _, _, rfl, rfl, blk_loadVar hT hc6 rfl⟩))) ⟨rfl, (hkw.tr hS.1).trB hk6 hsz⟩
  intro fin4
  refine dr_with 10 15401752723455 (fun σ' w' => ∃ kn x : Bool, kn = knownS op ∧ x = (((be || zeroE e) && (bf || zeroE f)) && (bb || (lb.length : Int) == 0)) ∧ (Keep [] w3 w' ∧ Blk w' b [.int .i64 op, .int .i64 v, e0, e1, e2, e3, f0, f1, f2, f3, .slice ab lb.length capb, .slice ao lo.length capo] 99) ∧ Sub ([(2, .pointer (some ⟨b, 0, none⟩)), (4, .pointer (some ⟨c, 0, none⟩)), (6, .bool bf), (8, .bool bb), (9, .bool bo), (19, .int .i64 deep), (27, .bool kn), (60, .bool (needV op)), (62, .int .i64 v), (51, .bool x)]) σ') ?_ ?_
  · rintro σ' w5 ⟨kn, x, rfl, hx, hS, hsub⟩
    refine dr_sub hsub ?_
    cases x with
    | false =>
      refine dr_not 33 rfl (by decide +kernel) rfl rfl ?_
      refine dr_not 34 rfl (by decide +kernel) rfl rfl ?_
      refine dr_not 35 rfl (by decide +kernel) rfl rfl ?_
      refine dr_not 36 rfl (by decide +kernel) rfl rfl ?_
      refine dr_not 37 rfl (by decide +kernel) rfl rfl ?_
      refine dr_not 38 rfl (by decide +kernel) rfl rfl ?_
      refine dr_not 39 rfl (by decide +kernel) rfl rfl ?_
      refine tk 40 ?_
      exact fin4 _ _ ⟨_, _, rfl, by simp [← hx], hS, rfl, rfl, rfl, rfl, rfl, rfl, rfl, rfl, rfl, rfl, trivial⟩
    | true =>
      refine tk 33 ?_
      refine tk 34 ?_
      cases bo with
      | true =>
        refine dr_not 35 rfl (by decide +kernel) rfl rfl ?_
        refine dr_not 36 rfl (by decide +kernel) rfl rfl ?_
        refine dr_not 37 rfl (by decide +kernel) rfl rfl ?_
        refine dr_not 38 rfl (by decide +kernel) rfl rfl ?_
        refine tk 39 ?_
        refine tk 40 ?_
        exact fin4 _ _ ⟨_, _, rfl, by simp [← hx], hS, rfl, rfl, rfl, rfl, rfl, rfl, rfl, rfl, rfl, rfl, trivial⟩
      | false =>
        refine tk 35 ?_
        refine dr_val 36 _ rfl (by decide +kernel) rfl rfl (fun w9 hS9 => val_load1 hT rfl rfl rfl (Blk.cell hS9.2 (by rfl))) hS ?_
        refine tk 37 ?_
        refine dr_any 38 _ rfl (by decide +kernel) rfl rfl (fun w => val_int _ _ _ _ rfl rfl rfl (by rfl) w) ?_
        refine tk 39 ?_
        refine tk 40 ?_
        exact fin4 _ _ ⟨_, _, rfl, by simp [← hx], hS, rfl, rfl, rfl, rfl, rfl, rfl, rfl, rfl, rfl, rfl, trivial⟩
  intro fin3
  clear fin4
  refine dr_with 19 15393179566079 (fun σ' w' => ∃ kn x : Bool, kn = knownS op ∧ x = ((be || zeroE e) && (bf || zeroE f)) ∧ (Keep [] w3 w' ∧ Blk w' b [.int .i64 op, .int .i64 v, e0, e1, e2, e3, f0, f1, f2, f3, .slice ab lb.length capb, .slice ao lo.length capo] 99) ∧ Sub ([(2, .pointer (some ⟨b, 0, none⟩)), (4, .pointer (some ⟨c, 0, none⟩)), (6, .bool bf), (8, .bool bb), (9, .bool bo), (19, .int .i64 deep), (27, .bool kn), (60, .bool (needV op)), (62, .int .i64 v), (42, .bool x)]) σ') ?_ ?_
  · rintro σ' w5 ⟨kn, x, rfl, hx, hS, hsub⟩
    refine dr_sub hsub ?_
    cases x with
    | false =>
      refine dr_not 24 rfl (by decide +kernel) rfl rfl ?_
      refine dr_not 25 rfl (by decide +kernel) rfl rfl ?_
      refine dr_not 26 rfl (by decide +kernel) rfl rfl ?_
      refine dr_not 27 rfl (by decide +kernel) rfl rfl ?_
      refine dr_not 28 rfl (by decide +kernel) rfl rfl ?_
      refine dr_not 29 rfl (by decide +kernel) rfl rfl ?_
      refine dr_not 30 rfl (by decide +kernel) rfl rfl ?_
      refine tk 31 ?_
      refine tk 32 ?_
      exact fin3 _ _ ⟨_, _, rfl, by simp [← hx], hS, rfl, rfl, rfl, rfl, rfl, rfl, rfl, rfl, rfl, rfl, trivial⟩
    | true =>
      refine tk 24 ?_
      refine tk 25 ?_
      cases bb with
      | true =>
        refine dr_not 26 rfl (by decide +kernel) rfl rfl ?_
        refine dr_not 27 rfl (by decide +kernel) rfl rfl ?_
        refine dr_not 28 rfl (by decide +kernel) rfl rfl ?_
        refine dr_not 29 rfl (by decide +kernel) rfl rfl ?_
        refine tk 30 ?_
        refine tk 31 ?_
        refine tk 32 ?_
        exact fin3 _ _ ⟨_, _, rfl, by simp [← hx], hS, rfl, rfl, rfl, rfl, rfl, rfl, rfl, rfl, rfl, rfl, trivial⟩
      | false =>
        refine tk 26 ?_
        refine dr_val 27 _ rfl (by decide +kernel) rfl rfl (fun w9 hS9 => val_load1 hT rfl rfl rfl (Blk.cell hS9.2 (by rfl))) hS ?_
        refine tk 28 ?_
        refine dr_any 29 _ rfl (by decide +kernel) rfl rfl (fun w => val_int _ _ _ _ rfl rfl rfl (by rfl) w) ?_
        refine tk 30 ?_
        refine tk 31 ?_
        refine tk 32 ?_
        exact fin3 _ _ ⟨_, _, rfl, by simp [← hx], hS, rfl, rfl, rfl, rfl, rfl, rfl, rfl, rfl, rfl, rfl, trivial⟩
  intro fin2
  clear fin3
  refine dr_with 27 15393162854399 (fun σ' w' => ∃ kn x : Bool, kn = knownS op ∧ x = (be || zeroE e) ∧ (Keep [] w3 w' ∧ Blk w' b [.int .i64 op, .int .i64 v, e0, e1, e2, e3, f0, f1, f2, f3, .slice ab lb.length capb, .slice ao lo.length capo] 99) ∧ Sub ([(2, .pointer (some ⟨b, 0, none⟩)), (4, .pointer (some ⟨c, 0, none⟩)), (6, .bool bf), (8, .bool bb), (9, .bool bo), (19, .int .i64 deep), (27, .bool kn), (60, .bool (needV op)), (62, .int .i64 v), (34, .bool x)]) σ') ?_ ?_
  · rintro σ' w5 ⟨kn, x, rfl, hx, hS, hsub⟩
    refine dr_sub hsub ?_
    cases x with
    | false =>
      refine dr_not 16 rfl (by decide +kernel) rfl rfl ?_
      refine dr_not 17 rfl (by decide +kernel) rfl rfl ?_
      refine dr_not 18 rfl (by decide +kernel) rfl rfl ?_
      refine dr_not 19 rfl (by decide +kernel) rfl rfl ?_
      refine dr_not 20 rfl (by decide +kernel) rfl rfl ?_
      refine dr_not 21 rfl (by decide +kernel) rfl rfl ?_
      refine tk 22 ?_
      refine tk 23 ?_
      exact fin2 _ _ ⟨_, _, rfl, by simp [← hx], hS, rfl, rfl, rfl, rfl, rfl, rfl, rfl, rfl, rfl, rfl, trivial⟩
    | true =>
      refine tk 16 ?_
      refine tk 17 ?_
      cases bf with
      | true =>
        refine dr_not 18 rfl (by decide +kernel) rfl rfl ?_
        refine dr_not 19 rfl (by decide +kernel) rfl rfl ?_
        refine dr_not 20 rfl (by decide +kernel) rfl rfl ?_
        refine tk 21 ?_
        refine tk 22 ?_
        refine tk 23 ?_
        exact fin2 _ _ ⟨_, _, rfl, by simp [← hx], hS, rfl, rfl, rfl, rfl, rfl, rfl, rfl, rfl, rfl, rfl, trivial⟩
      | false =>
        refine tk 18 ?_
        refine dr_val 19 _ rfl (by decide +kernel) rfl rfl (fun w9 hS9 => val_load [f0, f1, f2, f3] hT rfl rfl rfl (Blk.range hS9.2 (by rfl))) hS ?_
        refine dr_op 20 rfl (by decide +kernel) rfl rfl (opTo_call rfl rfl rfl rfl (by decide +kernel) ((isZero_ret (hf3.keep hS.1 hF3.stays)).mono ?_))
        rintro v6 w6 ⟨rfl, hk6⟩
        replace hS := And.intro (hS.1.tr hk6) (hk6.blk hS.2 (by simp))
        refine ⟨fun _ => hS, ?_⟩
        refine tk 21 ?_
        refine tk 22 ?_
        refine tk 23 ?_
        exact fin2 _ _ ⟨_, _, rfl, by simp [← hx], hS, rfl, rfl, rfl, rfl, rfl, rfl, rfl, rfl, rfl, rfl, trivial⟩
  intro fin1
  clear fin2
  refine dr_with 34 15393162789375 (fun σ' w' => ∃ kn x : Bool, kn = knownS op ∧ x = (true) ∧ (Keep [] w3 w' ∧ Blk w' b [.int .i64 op, .int .i64 v, e0, e1, e2, e3, f0, f1, f2, f3, .slice ab lb.length capb, .slice ao lo.length capo] 99) ∧ Sub ([(2, .pointer (some ⟨b, 0, none⟩)), (4, .pointer (some ⟨c, 0, none⟩)), (6, .bool bf), (8, .bool bb), (9, .bool bo), (19, .int .i64 deep), (27, .bool kn), (60, .bool (needV op)), (62, .int .i64 v), (5, .bool be)]) σ') ?_ ?_
  · rintro σ' w5 ⟨kn, x, rfl, hx, hS, hsub⟩
    refine dr_sub hsub ?_
    refine tk 9 ?_
    refine tk 10 ?_
    cases be with
    | true =>
      refine dr_not 11 rfl (by decide +kernel) rfl rfl ?_
      refine dr_not 12 rfl (by decide +kernel) rfl rfl ?_
      refine dr_not 13 rfl (by decide +kernel) rfl rfl ?_
      refine tk 14 ?_
      refine tk 15 ?_
      exact fin1 _ _ ⟨_, _, rfl, rfl, hS, rfl, rfl, rfl, rfl, rfl, rfl, rfl, rfl, rfl, rfl, trivial⟩
    | false =>
      refine tk 11 ?_
      refine dr_val 12 _ rfl (by decide +kernel) rfl rfl (fun w9 hS9 => val_load [e0, e1, e2, e3] hT rfl rfl rfl (Blk.range hS9.2 (by rfl))) hS ?_
      refine dr_op 13 rfl (by decide +kernel) rfl rfl (opTo_call rfl rfl rfl rfl (by decide +kernel) ((isZero_ret (he3.keep hS.1 hF3.stays)).mono ?_))
      rintro v6 w6 ⟨rfl, hk6⟩
      replace hS := And.intro (hS.1.tr hk6) (hk6.blk hS.2 (by simp))
      refine ⟨fun _ => hS, ?_⟩
      refine tk 14 ?_
      refine tk 15 ?_
      exact fin1 _ _ ⟨_, _, rfl, rfl, hS, rfl, rfl, rfl, rfl, rfl, rfl, rfl, rfl, rfl, rfl, trivial⟩
  intro fin0
  clear fin1
  refine tk 0 ?_
  refine tk 1 ?_
  refine dr_val 2 _ rfl (by decide +kernel) rfl rfl (fun w9 hS9 => val_load1 hT rfl rfl rfl (Blk.cell hS9.2 (by rfl))) hS ?_
  refine tk 41 ?_
  refine tk 42 ?_
  refine dr_val 43 _ rfl (by decide +kernel) rfl rfl (fun w9 hS9 => val_load1 hT rfl rfl rfl (Blk.cell hS9.2 (by rfl))) hS ?_
  by_cases h1 : op ≥ 1
  · refine dye 3 ?_
    refine tk 4 ?_
    refine tk 5 ?_
    refine dr_val 6 _ rfl (by decide +kernel) rfl rfl (fun w9 hS9 => val_load1 hT rfl rfl rfl (Blk.cell hS9.2 (by rfl))) hS ?_
    refine dr_any 7 _ rfl (by decide +kernel) rfl rfl (fun w => val_int _ _ _ _ rfl rfl rfl (by rfl) w) ?_
    refine tk 8 ?_
    exact fin0 _ _ ⟨_, true, by simp [knownS]; omega, rfl, hS, rfl, rfl, rfl, rfl, rfl, rfl, rfl, rfl, rfl, rfl, trivial⟩
  · refine dno 3 ?_
    refine tk 4 ?_
    refine dr_not 5 rfl (by decide +kernel) rfl rfl ?_
    refine dr_not 6 rfl (by decide +kernel) rfl rfl ?_
    refine dr_not 7 rfl (by decide +kernel) rfl rfl ?_
    refine tk 8 ?_
    exact fin0 _ _ ⟨_, true, by simp [knownS]; omega, rfl, hS, rfl, rfl, rfl, rfl, rfl, rfl, rfl, rfl, rfl, rfl, trivial⟩
end E
end Go.Proofs.YtmplkogkphmmjagGreat

/- Contracts of Check's closure, exprsOf, lookExprs, lookStmts. -/
namespace Go.Proofs.YtmplkogkphmmjagGreat
set_option maxRecDepth 20000
set_option maxHeartbeats 4000000
namespace E
open Go.Proofs

theorem app_keep {w0 w w' : World} {e size ln m g : Nat} {v : Value} {xs : List Value} (hk : Keep [] w0 w) (ho : Own w w0.heap.size e size v ln xs)
    (hor : (v.ownBlock = some g ∧ ln + m ≤ capOf v ∧ Keep [g] w w') ∨ (g = w.heap.size ∧ Keep [] w w' ∧ w'.heap.size = w.heap.size + 1)) : Keep [] w0 w' := by
  rcases hor with ⟨h1, _, h2⟩ | ⟨_, h2, _⟩
  · exact hk.trB h2 (ho.lt g h1).1
  · exact hk.tr h2

theorem slice_expr (a b c d : Value) : sliceCells Tryz.prog 92 1 [(0, .agg #[a, b, c, d])] = some (94, #[a, b, c, d]) := by kernel_rfl

theorem exprsOf_ret {F : Nat → Prop} {w : World} {op v : Int} {e f : ET} {lb lo : List ST} {ce cf : List Value} {bv ov : Value} (hF : In F w) (he : ExprV F w ce e) (hf : ExprV F w cf f) (hb : StmtsV F w bv lb) (ho : StmtsV F w ov lo) :
    Ret Tryz.prog 72 [.agg (scells op v ce cf bv ov).toArray] w fun r w' => (∃ F' : Nat → Prop, ExprsV F' w' r (els op e f) ∧ ∀ k, F' k → k < w'.heap.size ∧ (F k ∨ w.heap.size ≤ k)) ∧ Keep [] w w' := by
  obtain ⟨e0, e1, e2, e3, rfl⟩ := list4 he.length
  obtain ⟨f0, f1, f2, f3, rfl⟩ := list4 hf.length
  obtain ⟨ab, capb, rfl⟩ := hb.form
  obtain ⟨ao, capo, rfl⟩ := ho.form
  have oe := he.one
  have of := hf.one
  refine ret_of 31 Tryz.func72 rfl rfl (by simp) ?_
  refine au ?_
  refine pl_op rfl rfl (opTo_boxN [.int .i64 op, .int .i64 v, e0, e1, e2, e3, f0, f1, f2, f3, .slice ab lb.length capb, .slice ao lo.length capo] rfl rfl rfl ?_)
  intro w1 b hb0 hs1 hk1 hb1
  refine au ?_
  refine pl_val _ rfl rfl (val_load1 hT rfl rfl rfl (hb1.cell rfl)) ?_
  obtain ⟨be, hbe⟩ : ∃ x, x = needE op := ⟨_, rfl⟩
  obtain ⟨bf, hbf⟩ : ∃ x, x = needF op := ⟨_, rfl⟩
  have hR := has_ret op w1
  simp only [hasV, ← hbe, ← hbf] at hR
  refine pl_op rfl rfl (opTo_call rfl rfl rfl rfl (by decide +kernel) (hR.mono ?_))
  rintro v3 w3 ⟨rfl, rfl⟩
  unfold els
  rw [← hbe, ← hbf]
  clear hbe hbf hR
  have hnil : Own w3 w.heap.size 94 4 (.slice none 0 0) ([] : List (List Value)).length ([] : List (List Value)).flatten := Own.nil _ _ _ _
  have fin : ∀ (rv : Value) (w' : World) (ccs : List (List Value)) (l : List ET) (hl : ccs.length = l.length), Own w' w.heap.size 94 4 rv ccs.length ccs.flatten → Keep [] w w' → (∀ i (hi : i < l.length), ExprV F w (ccs.getD i []) (l[i]'hi)) →
      (∃ F' : Nat → Prop, ExprsV F' w' rv l ∧ ∀ k, F' k → k < w'.heap.size ∧ (F k ∨ w.heap.size ≤ k)) ∧ Keep [] w w' := by
    intro rv w' ccs l hl hown hk hc
    refine ⟨⟨_, exprs_of_own (F := F) hown hl fun i hi => (hc i hi).keep hk hF.stays, ?_⟩, hk⟩
    rintro k (h | h)
    · have := hown.lt k h
      exact ⟨this.2, .inr this.1⟩
    · exact ⟨Nat.lt_of_lt_of_le (hF k h) hk.size, .inl h⟩
  cases be with
  | false =>
    cases bf with
    | false =>
      refine au ?_
      exact rn_ret Tryz.func72 (.inl ⟨_, rfl, rfl⟩) (fin _ _ [] [] rfl hnil hk1 (fun i hi => by simp at hi))
    | true =>
      refine au ?_
      refine pl_val _ rfl rfl (val_load [f0, f1, f2, f3] hT rfl rfl rfl (hb1.range (by rfl))) ?_
      refine pl_op rfl rfl (opTo_sliceN _ _ rfl rfl (slice_expr f0 f1 f2 f3) ?_)
      intro w4 g4 hg4 hs4 hk4 hx4
      have hn4 := hnil.keep hk4 (by simp)
      refine pl_op rfl rfl (opTo_app w.heap.size 94 4 48 [] [f0, f1, f2, f3] rfl rfl rfl (by decide +kernel) hn4 (hx4.range (by rfl)) rfl of (by decide) (by decide) (by decide) (hk1.tr hk4).size ?_)
      intro g5 cap5 w5 ho5 hor5
      have hk5 := app_keep (hk1.tr hk4) hn4 hor5
      refine au ?_
      exact rn_ret Tryz.func72 (.inl ⟨_, rfl, rfl⟩) (fin _ _ [[f0, f1, f2, f3]] [f] rfl ho5 hk5 (fun i hi => by
        obtain rfl : i = 0 := by simpa using hi
        exact hf))
  | true =>
    refine au ?_
    refine pl_val _ rfl rfl (val_load [e0, e1, e2, e3] hT rfl rfl rfl (hb1.range (by rfl))) ?_
    refine pl_op rfl rfl (opTo_sliceN _ _ rfl rfl (slice_expr e0 e1 e2 e3) ?_)
    intro w4 g4 hg4 hs4 hk4 hx4
    have hn4 := hnil.keep hk4 (by simp)
    have hb4 := hk4.blk hb1 (by simp)
    refine pl_op rfl rfl (opTo_app w.heap.size 94 4 48 [] [e0, e1, e2, e3] rfl rfl rfl (by decide +kernel) hn4 (hx4.range (by rfl)) rfl oe (by decide) (by decide) (by decide) (hk1.tr hk4).size ?_)
    intro g5 cap5 w5 ho5 hor5
    have hk5 := app_keep (hk1.tr hk4) hn4 hor5
    have hb5 : Blk w5 b [.int .i64 op, .int .i64 v, e0, e1, e2, e3, f0, f1, f2, f3, .slice ab lb.length capb, .slice ao lo.length capo] 99 := by
      rcases hor5 with ⟨h, _⟩ | ⟨_, h, _⟩
      · cases h
      · exact h.blk hb4 (by simp)
    cases bf with
    | false =>
      refine au ?_
      exact rn_ret Tryz.func72 (.inl ⟨_, rfl, rfl⟩) (fin _ _ [[e0, e1, e2, e3]] [e] rfl ho5 hk5 (fun i hi => by
        obtain rfl : i = 0 := by simpa using hi
        exact he))
    | true =>
      refine au ?_
      refine pl_val _ rfl rfl (val_load [f0, f1, f2, f3] hT rfl rfl rfl (hb5.range (by rfl))) ?_
      refine pl_op rfl rfl (opTo_sliceN _ _ rfl rfl (slice_expr f0 f1 f2 f3) ?_)
      intro w6 g6 hg6 hs6 hk6 hx6
      have hn6 := ho5.keep hk6 (by simp)
      refine pl_op rfl rfl (opTo_app w.heap.size 94 4 48 [e0, e1, e2, e3] [f0, f1, f2, f3] rfl rfl rfl (by decide +kernel) hn6 (hx6.range (by rfl)) rfl of (by decide) (by decide) (by decide) (hk5.tr hk6).size ?_)
      intro g7 cap7 w7 ho7 hor7
      have hk7 := app_keep (hk5.tr hk6) hn6 hor7
      refine au ?_
      exact rn_ret Tryz.func72 (.inl ⟨_, rfl, rfl⟩) (fin _ _ [[e0, e1, e2, e3], [f0, f1, f2, f3]] [e, f] rfl ho7 hk7 (fun i hi => by
        match i, hi with
        | 0, _ => exact he
        | 1, _ => exact hf))

theorem look_ret {w : World} {m pb k nv capv : Nat} {av : Option Addr} {bv : Value} (hm : Blk w m [.int .i64 (k : Nat)] 3) (hp : Blk w pb [.slice av nv capv, bv] 25) (hk : k ≤ 1000) (deep : Int) (kn fi na : Bool) (v : Int) :
    Ret Tryz.prog 56 [.agg (partL deep kn fi na v).toArray, .pointer (some ⟨m, 0, none⟩), .pointer (some ⟨pb, 0, none⟩)] w fun r w' => r = .int .i64 (lookK nv k deep kn fi na v) ∧ Blk w' m [.int .i64 ((k + 1 : Nat) : Int)] 3 ∧ Keep [m] w w' := by
  refine ret_of 47 Tryz.func56 rfl rfl (by simp) ?_
  refine au ?_
  refine pl_op rfl rfl (opTo_boxN (partL deep kn fi na v) rfl rfl rfl ?_)
  intro w1 b hb0 hs1 hk1 hb1
  have hm1 := hk1.blk hm (by simp)
  have hp1 := hk1.blk hp (by simp)
  refine au ?_
  refine pl_val _ rfl rfl (val_load1 hT rfl rfl rfl (hm1.cell rfl)) ?_
  refine pl_num (((k + 1 : Nat) : Int)) rfl rfl rfl rfl rfl (by simp only [ariP]; omega) ?_
  refine pl_op rfl rfl (opTo_storeN _ rfl rfl rfl rfl (by kernel_rfl) hm1 (by simp) (by simp; rfl) ?_)
  intro w2 hs2 hk2 hm2
  have hp2 := hk2.blk hp1 (by simp; exact hp1.ne hm1 (by decide))
  have hb2 := hk2.blk hb1 (by simp; exact hb1.ne hm1 (by decide))
  rw [splice_whole (by rfl)] at hm2
  have hkw : Keep [m] w w2 := (Keep.of0 hk1).tr hk2
  have hmem : Blk w2 m [.int .i64 ((k + 1 : Nat) : Int)] 3 ∧ Keep [m] w w2 := ⟨hm2, hkw⟩
  clear hb1 hm1 hp1 hk1 hk2 hm hp
  unfold partL at hb2
  unfold lookK
  by_cases h1 : deep > 12
  · refine aub ?_
    exact rn_ret Tryz.func56 (.inl ⟨_, rfl, rfl⟩) ⟨by rw [if_pos h1], hmem⟩
  rw [if_neg h1]
  by_cases h2 : k + 1 > 150
  · refine aub ?_
    exact rn_ret Tryz.func56 (.inl ⟨_, rfl, rfl⟩) ⟨by rw [if_pos h2], hmem⟩
  rw [if_neg h2]
  cases kn with
  | false =>
    refine aub ?_
    exact rn_ret Tryz.func56 (.inl ⟨_, rfl, rfl⟩) ⟨rfl, hmem⟩
  | true =>
    cases fi with
    | false =>
      refine aub ?_
      exact rn_ret Tryz.func56 (.inl ⟨_, rfl, rfl⟩) ⟨rfl, hmem⟩
    | true =>
      cases na with
      | true =>
        by_cases h3 : v < 0
        · refine aub ?_
          exact rn_ret Tryz.func56 (.inl ⟨_, rfl, rfl⟩) ⟨by simp [varK, h3], hmem⟩
        · by_cases h4 : v ≥ (nv : Int)
          · refine aub ?_
            exact rn_ret Tryz.func56 (.inl ⟨_, rfl, rfl⟩) ⟨by simp [varK, h4], hmem⟩
          · refine aub ?_
            exact rn_ret Tryz.func56 (.inl ⟨_, rfl, rfl⟩) ⟨by simp [varK, h3, h4], hmem⟩
      | false =>
        by_cases h3 : v = 0
        · refine aub ?_
          exact rn_ret Tryz.func56 (.inl ⟨_, rfl, rfl⟩) ⟨by simp [varK, h3], hmem⟩
        · refine aub ?_
          exact rn_ret Tryz.func56 (.inl ⟨_, rfl, rfl⟩) ⟨by simp [varK, h3], hmem⟩
end E
end Go.Proofs.YtmplkogkphmmjagGreat

/- Contracts of lookExprs and lookStmts: they tell what chkEs and chkSs tell. -/
namespace Go.Proofs.YtmplkogkphmmjagGreat
set_option maxRecDepth 20000
set_option maxHeartbeats 4000000
namespace E
open Go.Proofs

def exprZ : List Value := [.int .i64 0, .int .i64 0, .int .i64 0, .slice none 0 0]
def stmtZ : List Value := [.int .i64 0, .int .i64 0, .int .i64 0, .int .i64 0, .int .i64 0, .slice none 0 0, .int .i64 0, .int .i64 0, .int .i64 0, .slice none 0 0, .slice none 0 0, .slice none 0 0]
theorem zero_expr : ((Tryz.prog.info? 94).bind (·.zero)).map (·.cells) = some exprZ.toArray := by kernel_rfl
theorem zero_stmt : ((Tryz.prog.info? 99).bind (·.zero)).map (·.cells) = some stmtZ.toArray := by kernel_rfl

/-- What a look is handed: how many parts were met, and the program. -/
structure Meets (w : World) (m pb nv capv k : Nat) (av : Option Addr) (bv : Value) : Prop where
  hm : Blk w m [.int .i64 (k : Nat)] 3
  hp : Blk w pb [.slice av nv capv, bv] 25
theorem Meets.keep {w w' : World} {m pb nv capv k : Nat} {av : Option Addr} {bv : Value} (h : Meets w m pb nv capv k av bv) (hk : Keep [] w w') : Meets w' m pb nv capv k av bv := ⟨hk.blk h.hm (by simp), hk.blk h.hp (by simp)⟩
theorem Meets.turn {w w' : World} {m pb nv capv k k' : Nat} {av : Option Addr} {bv : Value} (h : Meets w m pb nv capv k av bv) (hk : Keep [m] w w') (hm : Blk w' m [.int .i64 (k' : Nat)] 3) : Meets w' m pb nv capv k' av bv :=
  ⟨hm, hk.blk h.hp (by simp; exact h.hp.ne h.hm (by decide))⟩
theorem stays_but {F : Nat → Prop} {w : World} {m : Nat} (hF : In F w) (hm : ¬ F m) : Stays F w [m] := fun k hk => ⟨hF k hk, by simp; rintro rfl; exact hm hk⟩

/-- Behind looks at parts: the code, and how many were met. -/
def Looked (x : Except Int Nat) (m : Nat) (w : World) (r : Value) (w' : World) : Prop :=
  r = .int .i64 (codeOf x) ∧ (∃ k' : Nat, Blk w' m [.int .i64 (k' : Nat)] 3 ∧ ∀ q, x = .ok q → k' = q) ∧ Keep [m] w w'

theorem lookExprs_ret {m pb nv capv : Nat} {av : Option Addr} {bv : Value} : ∀ (s : Nat) (l : List ET), szEs l < s → szEs l ≤ 300000 → ∀ {F : Nat → Prop} {w : World} {x : Value} (deep k : Nat), ExprsV F w x l → In F w → ¬ F m → Meets w m pb nv capv k av bv → deep ≤ 13 → k ≤ 150 →
    Ret Tryz.prog 71 [x, .int .i64 (deep : Nat), .func (.func 56) #[] #[.pointer (some ⟨m, 0, none⟩), .pointer (some ⟨pb, 0, none⟩)]] w (Looked (chkEs nv l deep k) m w) := by
  intro s
  induction s with
  | zero => intro l hl; omega
  | succ s ih =>
    intro l hl hl3 F w x deep k h hF hFm hM hdeep hk
    obtain ⟨a, cap, rfl⟩ := h.form
    have hlen := szEs_len l
    refine ret_of 33 Tryz.func71 rfl rfl (by simp) ?_
    refine au ?_
    refine rn_ind (fun q σ w' => ∃ i ki : Nat, i ≤ l.length ∧ q = l.length - i ∧ σ = [(1, .int .i64 (deep : Nat)), (2, .func (.func 56) #[] #[.pointer (some ⟨m, 0, none⟩), .pointer (some ⟨pb, 0, none⟩)]), (10, .slice a l.length cap), (11, .int .i64 (l.length : Nat)), (12, .int .i64 (i : Nat))] ∧
      chkEs nv (l.take i) deep k = .ok ki ∧ Meets w' m pb nv capv ki av bv ∧ Keep [m] w w') l.length _ ?_ ⟨0, k, by omega, by omega, rfl, by simp [chkEs], hM, Keep.refl _ _⟩ ?_
    · exact ⟨rfl, rfl, rfl, rfl, rfl, trivial⟩
    rintro q σ w2 ih2 ⟨i, ki, hi, rfl, rfl, hck, hM2, hk2⟩
    have hki := boundEs nv _ _ k ki hk hck
    refine au ?_
    by_cases hlt : i < l.length
    · refine ye ?_
      refine au ?_
      have hget : l[i]? = some l[i] := List.getElem?_eq_getElem hlt
      have hsz := szEs_at hget
      obtain ⟨op, v, n, l', hs⟩ : ∃ op v n l', l[i] = ET.mk op v n l' := by cases l[i]; exact ⟨_, _, _, _, rfl⟩
      rw [hs] at hget hsz
      simp only [szE] at hsz
      have hch := chkEs_at hget hck
      rw [chkE_look] at hch
      obtain ⟨bb, q, cap', lv, hv, hat⟩ := (h.keep hk2 (stays_but hF hFm)).exprAt hget
      cases hv
      have hF2 := hF.keep hk2
      refine pl_val _ rfl rfl (val_index i hT rfl rfl rfl rfl rfl hlt w2) ?_
      refine pl_val _ rfl rfl (val_load [.int .i64 op, .int .i64 v, .int .i64 n, lv] hT rfl rfl rfl hat.whole) ?_
      refine pl_op rfl rfl (opTo_allocN _ rfl zero_expr ?_)
      intro w3 c hc3 hs3 hk3 hc
      refine pl_op rfl rfl (opTo_storeN _ rfl rfl rfl rfl (by kernel_rfl) hc (by simp [exprZ]) hat.expr.one ?_)
      intro w4 hs4 hk4 hc4
      rw [splice_whole (by rfl)] at hc4
      have hk24 : Keep [] w2 w4 := hk3.trB hk4 (by omega)
      have hl4 := hat.hl.keep hk24 hF2.stays
      have hM4 := hM2.keep hk24
      have hF4 := hF2.keep hk24
      have hkw4 : Keep [m] w w4 := hk2.tr (Keep.of0 hk24)
      clear hk3 hk4 hc hM2 hk2 hat hF2
      refine au ?_
      refine pl_val _ rfl rfl (val_load [.int .i64 op, .int .i64 v, .int .i64 n, lv] hT rfl rfl rfl (hc4.range (by rfl))) ?_
      refine au ?_
      refine pl_op rfl rfl (opTo_call rfl rfl rfl rfl (by decide +kernel) ((exprPart_ret hl4 (deep : Nat)).mono ?_))
      rintro v5 w5 ⟨rfl, hk5⟩
      have hM5 := hM4.keep hk5
      refine pl_op rfl rfl (opTo_call (fst := []) (cap := [.pointer (some ⟨m, 0, none⟩), .pointer (some ⟨pb, 0, none⟩)]) rfl rfl rfl rfl (by decide +kernel) ((look_ret hM5.hm hM5.hp (by omega) (deep : Nat) (knownE op) (fitsE op n l'.length) (namedE op) v).mono ?_))
      rintro v6 w6 ⟨rfl, hm6, hk6⟩
      have hM6 := hM5.turn hk6 hm6
      have hl6 := (hl4.keep hk5 hF4.stays).keep hk6 (stays_but (hF4.keep hk5) hFm)
      have hF6 := (hF4.keep hk5).keep hk6
      have hc6 := hk6.blk (hk5.blk hc4 (by simp)) (by simp; exact (hk5.blk hc4 (by simp)).ne hM5.hm (by decide))
      have hkw6 : Keep [m] w w6 := (hkw4.tr (Keep.of0 hk5)).tr hk6
      clear hk5 hk6 hM4 hM5 hm6 hc4 hl4 hF4 hkw4 hk24
      refine au ?_
      generalize hcd : lookK nv ki (deep : Nat) (knownE op) (fitsE op n l'.length) (namedE op) v = cd at *
      by_cases hz : cd = 0
      · have hroom := look_room (hcd.trans hz)
        rw [if_neg (by simp [hz])] at hch
        refine ye ?_
        refine au ?_
        refine pl_val _ rfl rfl (val_load1 hT rfl rfl rfl (hc6.cell rfl)) ?_
        refine au ?_
        refine pl_num (((deep + 1 : Nat) : Int)) rfl rfl rfl rfl rfl (by simp only [ariP]; omega) ?_
        refine au ?_
        refine pl_op rfl rfl (opTo_call rfl rfl rfl rfl (by decide +kernel) ((ih l' (by omega) (by omega) (deep + 1) (ki + 1) hl6 hF6 hFm hM6 (by omega) (by omega)).mono ?_))
        rintro v7 w7 ⟨rfl, ⟨k7, hm7, hq7⟩, hk7⟩
        have hM7 := hM6.turn hk7 hm7
        have hkw7 := hkw6.tr hk7
        refine au ?_
        cases hx : chkEs nv l' (deep + 1) (ki + 1) with
        | error e =>
          have hne := codedEs nv l' (deep + 1) (ki + 1) e hx
          simp only [codeOf]
          refine ye ?_
          refine au ?_
          refine rn_ret Tryz.func71 (.inl ⟨_, rfl, rfl⟩) ?_
          have := hch.2 e hx
          exact ⟨by rw [this]; rfl, ⟨k7, hm7, fun q hq => by rw [this] at hq; cases hq⟩, hkw7⟩
        | ok k8 =>
          simp only [codeOf]
          refine nay ?_
          refine au ?_
          refine pl_num (((i + 1 : Nat) : Int)) rfl rfl rfl rfl rfl (by simp only [ariP]; omega) ?_
          refine au ?_
          have e8 := hq7 k8 hx
          subst e8
          refine rn_sub ?_ (ih2 (l.length - (i + 1)) [(1, .int .i64 (deep : Nat)), (2, .func (.func 56) #[] #[.pointer (some ⟨m, 0, none⟩), .pointer (some ⟨pb, 0, none⟩)]), (10, .slice (some ⟨bb, q, none⟩) l.length cap), (11, .int .i64 (l.length : Nat)), (12, .int .i64 ((i + 1 : Nat) : Int))] w7 (by omega)
            ⟨i + 1, k7, by omega, rfl, rfl, by rw [hch.1, hx], hM7, hkw7⟩)
          exact ⟨rfl, rfl, rfl, rfl, rfl, trivial⟩
      · rw [if_pos hz] at hch
        refine nay ?_
        refine au ?_
        refine ye ?_
        refine au ?_
        refine rn_ret Tryz.func71 (.inl ⟨_, rfl, rfl⟩) ?_
        have := hch.2 cd rfl
        exact ⟨by rw [this]; rfl, ⟨_, hM6.hm, fun q hq => by rw [this] at hq; cases hq⟩, hkw6⟩
    · refine nay ?_
      refine au ?_
      refine rn_ret Tryz.func71 (.inl ⟨_, rfl, rfl⟩) ?_
      rw [List.take_of_length_le (by omega)] at hck
      rw [hck]
      exact ⟨rfl, ⟨ki, hM2.hm, fun q hq => by injection hq⟩, hk2⟩

theorem lookStmts_ret {m pb nv capv : Nat} {av : Option Addr} {bv : Value} : ∀ (s : Nat) (l : List ST), szSs l < s → szSs l ≤ 100000 → ∀ {F : Nat → Prop} {w : World} {x : Value} (deep k : Nat), StmtsV F w x l → In F w → ¬ F m → Meets w m pb nv capv k av bv → deep ≤ 13 → k ≤ 150 →
    Ret Tryz.prog 55 [x, .int .i64 (deep : Nat), .func (.func 56) #[] #[.pointer (some ⟨m, 0, none⟩), .pointer (some ⟨pb, 0, none⟩)]] w (Looked (chkSs nv l deep k) m w) := by
  intro s
  induction s with
  | zero => intro l hl; omega
  | succ s ih =>
    intro l hl hl3 F w x deep k h hF hFm hM hdeep hk
    obtain ⟨a, cap, rfl⟩ := h.form
    have hlen := szSs_len l
    refine ret_of 49 Tryz.func55 rfl rfl (by simp) ?_
    refine au ?_
    refine rn_ind (fun q σ w' => ∃ i ki : Nat, i ≤ l.length ∧ q = l.length - i ∧ σ = [(1, .int .i64 (deep : Nat)), (2, .func (.func 56) #[] #[.pointer (some ⟨m, 0, none⟩), .pointer (some ⟨pb, 0, none⟩)]), (10, .slice a l.length cap), (11, .int .i64 (l.length : Nat)), (12, .int .i64 (i : Nat))] ∧
      chkSs nv (l.take i) deep k = .ok ki ∧ Meets w' m pb nv capv ki av bv ∧ Keep [m] w w') l.length _ ?_ ⟨0, k, by omega, by omega, rfl, by simp [chkSs], hM, Keep.refl _ _⟩ ?_
    · exact ⟨rfl, rfl, rfl, rfl, rfl, trivial⟩
    rintro q σ w2 ih2 ⟨i, ki, hi, rfl, rfl, hck, hM2, hk2⟩
    have hki := boundSs nv _ _ k ki hk hck
    refine au ?_
    by_cases hlt : i < l.length
    · refine ye ?_
      refine au ?_
      have hget : l[i]? = some l[i] := List.getElem?_eq_getElem hlt
      have hsz := szSs_at hget
      obtain ⟨op, v, e, f, lb, lo, hs⟩ : ∃ op v e f lb lo, l[i] = ST.mk op v e f lb lo := by cases l[i]; exact ⟨_, _, _, _, _, _, rfl⟩
      rw [hs] at hget hsz
      simp only [szS] at hsz
      have hch := chkSs_at hget hck
      obtain ⟨bb, q, cap', ce, cf, bv', ov, hv, hat⟩ := (h.keep hk2 (stays_but hF hFm)).stmtAt hget
      cases hv
      have hF2 := hF.keep hk2
      have h12 : (scells op v ce cf bv' ov).length = 12 := by simp [scells, hat.he.length, hat.hf.length]
      refine pl_val _ rfl rfl (val_index i hT rfl rfl rfl rfl rfl hlt w2) ?_
      refine pl_val _ rfl rfl (val_load (scells op v ce cf bv' ov) hT rfl rfl (by rw [h12]; rfl) hat.whole) ?_
      refine pl_op rfl rfl (opTo_allocN _ rfl zero_stmt ?_)
      intro w3 c hc3 hs3 hk3 hc
      refine pl_op rfl rfl (opTo_storeN _ rfl rfl rfl rfl (by rw [h12]; decide +kernel) hc (by rw [h12]; decide) hat.stmt.one ?_)
      intro w4 hs4 hk4 hc4
      rw [splice_whole (by rw [h12]; rfl)] at hc4
      have hk24 : Keep [] w2 w4 := hk3.trB hk4 (by omega)
      have hat4 := hat.keep hk24 hF2.stays
      have hM4 := hM2.keep hk24
      have hF4 := hF2.keep hk24
      have hkw4 : Keep [m] w w4 := hk2.tr (Keep.of0 hk24)
      clear hk3 hk4 hc hM2 hk2 hat hF2
      refine au ?_
      refine pl_val _ rfl rfl (val_load (scells op v ce cf bv' ov) hT rfl rfl (by rw [h12]; rfl) (hc4.range (by simp))) ?_
      refine au ?_
      refine pl_op rfl rfl (opTo_call rfl rfl rfl rfl (by decide +kernel) ((stmtPart_ret hF4 hat4.he hat4.hf hat4.hb hat4.ho (deep : Nat)).mono ?_))
      rintro v5 w5 ⟨rfl, hk5⟩
      have hM5 := hM4.keep hk5
      refine pl_op rfl rfl (opTo_call (fst := []) (cap := [.pointer (some ⟨m, 0, none⟩), .pointer (some ⟨pb, 0, none⟩)]) rfl rfl rfl rfl (by decide +kernel) ((look_ret hM5.hm hM5.hp (by omega) (deep : Nat) (knownS op) (fitsS op e f lb.length lo.length) (needV op) v).mono ?_))
      rintro v6 w6 ⟨rfl, hm6, hk6⟩
      have hM6 := hM5.turn hk6 hm6
      have hat6 := (hat4.keep hk5 hF4.stays).keep hk6 (stays_but (hF4.keep hk5) hFm)
      have hF6 := (hF4.keep hk5).keep hk6
      have hc6 := hk6.blk (hk5.blk hc4 (by simp)) (by simp; exact (hk5.blk hc4 (by simp)).ne hM5.hm (by decide))
      have hkw6 : Keep [m] w w6 := (hkw4.tr (Keep.of0 hk5)).tr hk6
      clear hk5 hk6 hM4 hM5 hm6 hc4 hat4 hF4 hkw4 hk24
      refine au ?_
      generalize hcd : lookK nv ki (deep : Nat) (knownS op) (fitsS op e f lb.length lo.length) (needV op) v = cd at *
      by_cases hz : cd = 0
      · have hroom := look_room (hcd.trans hz)
        rw [chkS_parts _ _ _ _ _ _ _ _ _ (hcd.trans hz)] at hch
        refine ye ?_
        refine au ?_
        refine pl_val _ rfl rfl (val_load (scells op v ce cf bv' ov) hT rfl rfl (by rw [h12]; rfl) (hc6.range (by simp))) ?_
        refine pl_op rfl rfl (opTo_call rfl rfl rfl rfl (by decide +kernel) ((exprsOf_ret hF6 hat6.he hat6.hf hat6.hb hat6.ho).mono ?_))
        rintro v7 w7 ⟨⟨F', hes, hF'⟩, hk7⟩
        have hM7 := hM6.keep hk7
        have hat7 := hat6.keep hk7 hF6.stays
        have hF7 := hF6.keep hk7
        have hc7 := hk7.blk hc6 (by simp)
        refine au ?_
        refine pl_num (((deep + 1 : Nat) : Int)) rfl rfl rfl rfl rfl (by simp only [ariP]; omega) ?_
        refine au ?_
        have hels : szEs (els op e f) ≤ szE e + szE f := by unfold els; cases needE op <;> cases needF op <;> simp [szEs]
        refine pl_op rfl rfl (opTo_call rfl rfl rfl rfl (by decide +kernel) ((lookExprs_ret _ (els op e f) (Nat.lt_succ_self _) (by omega) (deep + 1) (ki + 1) hes (fun k hk => (hF' k hk).1) (fun h => (hF' m h).2.elim hFm fun h => absurd hM6.hm.lt (by omega)) hM7 (by omega) (by omega)).mono ?_))
        rintro v8 w8 ⟨rfl, ⟨k8, hm8, hq8⟩, hk8⟩
        have hM8 := hM7.turn hk8 hm8
        have hat8 := hat7.keep hk8 (stays_but hF7 hFm)
        have hF8 := hF7.keep hk8
        have hc8 := hk8.blk hc7 (by simp; exact hc7.ne hM7.hm (by decide))
        have hkw8 : Keep [m] w w8 := (hkw6.tr (Keep.of0 hk7)).tr hk8
        clear hk7 hk8 hM6 hM7 hat6 hat7 hF6 hF7 hc6 hc7 hes hF' hkw6
        refine au ?_
        cases hx : chkEs nv (els op e f) (deep + 1) (ki + 1) with
        | error er =>
          have hne := codedEs nv _ (deep + 1) (ki + 1) er hx
          rw [hx] at hch
          simp only [codeOf]
          refine nay ?_
          refine au ?_
          refine nay ?_
          refine au ?_
          refine ye ?_
          refine au ?_
          refine rn_ret Tryz.func55 (.inl ⟨_, rfl, rfl⟩) ?_
          have := hch.2 er rfl
          exact ⟨by rw [this]; rfl, ⟨k8, hm8, fun q hq => by rw [this] at hq; cases hq⟩, hkw8⟩
        | ok k8' =>
          have e8 := hq8 k8' hx
          subst e8
          have hb8 := boundEs nv _ _ _ _ (by omega) hx
          rw [hx] at hch
          simp only [nextK] at hch
          simp only [codeOf]
          refine ye ?_
          refine au ?_
          refine pl_val _ rfl rfl (val_load1 hT rfl rfl rfl (hc8.cell (by rw [scells]; obtain ⟨_, _, _, _, rfl⟩ := list4 hat8.he.length; obtain ⟨_, _, _, _, rfl⟩ := list4 hat8.hf.length; rfl))) ?_
          refine au ?_
          refine pl_num (((deep + 1 : Nat) : Int)) rfl rfl rfl rfl rfl (by simp only [ariP]; omega) ?_
          refine au ?_
          refine pl_op rfl rfl (opTo_call rfl rfl rfl rfl (by decide +kernel) ((ih lb (by omega) (by omega) (deep + 1) k8 hat8.hb hF8 hFm hM8 (by omega) hb8).mono ?_))
          rintro v9 w9 ⟨rfl, ⟨k9, hm9, hq9⟩, hk9⟩
          have hM9 := hM8.turn hk9 hm9
          have hat9 := hat8.keep hk9 (stays_but hF8 hFm)
          have hF9 := hF8.keep hk9
          have hc9 := hk9.blk hc8 (by simp; exact hc8.ne hM8.hm (by decide))
          have hkw9 : Keep [m] w w9 := hkw8.tr hk9
          refine au ?_
          cases hy : chkSs nv lb (deep + 1) k8 with
          | error er =>
            have hne := codedSs nv _ (deep + 1) k8 er hy
            rw [hy] at hch
            simp only [codeOf]
            refine nay ?_
            refine au ?_
            refine ye ?_
            refine au ?_
            refine rn_ret Tryz.func55 (.inl ⟨_, rfl, rfl⟩) ?_
            have := hch.2 er rfl
            exact ⟨by rw [this]; rfl, ⟨k9, hm9, fun q hq => by rw [this] at hq; cases hq⟩, hkw9⟩
          | ok k9' =>
            have e9 := hq9 k9' hy
            subst e9
            have hb9 := boundSs nv _ _ _ _ hb8 hy
            rw [hy] at hch
            simp only at hch
            simp only [codeOf]
            refine ye ?_
            refine au ?_
            refine pl_val _ rfl rfl (val_load1 hT rfl rfl rfl (hc9.cell (by rw [scells]; obtain ⟨_, _, _, _, rfl⟩ := list4 hat9.he.length; obtain ⟨_, _, _, _, rfl⟩ := list4 hat9.hf.length; rfl))) ?_
            refine au ?_
            refine pl_num (((deep + 1 : Nat) : Int)) rfl rfl rfl rfl rfl (by simp only [ariP]; omega) ?_
            refine au ?_
            refine pl_op rfl rfl (opTo_call rfl rfl rfl rfl (by decide +kernel) ((ih lo (by omega) (by omega) (deep + 1) k9 hat9.ho hF9 hFm hM9 (by omega) hb9).mono ?_))
            rintro v10 w10 ⟨rfl, ⟨k10, hm10, hq10⟩, hk10⟩
            have hM10 := hM9.turn hk10 hm10
            have hkw10 : Keep [m] w w10 := hkw9.tr hk10
            refine au ?_
            cases hu : chkSs nv lo (deep + 1) k9 with
            | error er =>
              have hne := codedSs nv _ (deep + 1) k9 er hu
              simp only [codeOf]
              refine ye ?_
              refine au ?_
              refine rn_ret Tryz.func55 (.inl ⟨_, rfl, rfl⟩) ?_
              have := hch.2 er hu
              exact ⟨by rw [this]; rfl, ⟨k10, hm10, fun q hq => by rw [this] at hq; cases hq⟩, hkw10⟩
            | ok k10' =>
              simp only [codeOf]
              refine nay ?_
              refine au ?_
              refine pl_num (((i + 1 : Nat) : Int)) rfl rfl rfl rfl rfl (by simp only [ariP]; omega) ?_
              refine au ?_
              have e10 := hq10 k10' hu
              subst e10
              refine rn_sub ?_ (ih2 (l.length - (i + 1)) [(1, .int .i64 (deep : Nat)), (2, .func (.func 56) #[] #[.pointer (some ⟨m, 0, none⟩), .pointer (some ⟨pb, 0, none⟩)]), (10, .slice (some ⟨bb, q, none⟩) l.length cap), (11, .int .i64 (l.length : Nat)), (12, .int .i64 ((i + 1 : Nat) : Int))] w10 (by omega)
                ⟨i + 1, k10, by omega, rfl, rfl, by rw [hch.1, hu], hM10, hkw10⟩)
              exact ⟨rfl, rfl, rfl, rfl, rfl, trivial⟩
      · rw [chkS_look, hcd, if_pos hz] at hch
        refine nay ?_
        refine au ?_
        refine nay ?_
        refine au ?_
        refine nay ?_
        refine au ?_
        refine ye ?_
        refine au ?_
        refine rn_ret Tryz.func55 (.inl ⟨_, rfl, rfl⟩) ?_
        have := hch.2 cd rfl
        exact ⟨by rw [this]; rfl, ⟨_, hM6.hm, fun q hq => by rw [this] at hq; cases hq⟩, hkw6⟩
    · refine nay ?_
      refine au ?_
      refine rn_ret Tryz.func55 (.inl ⟨_, rfl, rfl⟩) ?_
      rw [List.take_of_length_le (by omega)] at hck
      rw [hck]
      exact ⟨rfl, ⟨ki, hM2.hm, fun q hq => by injection hq⟩, hk2⟩
end E
end Go.Proofs.YtmplkogkphmmjagGreat

/- Contracts of checkVars, Check, Cell, Cells. -/
namespace Go.Proofs.YtmplkogkphmmjagGreat
set_option maxRecDepth 20000
set_option maxHeartbeats 4000000
namespace E
open Go.Proofs

theorem VarsV.cut {F : Nat → Prop} {w : World} {a : Option Addr} {cap i : Nat} {l : List VarT} (h : VarsV F w (.slice a l.length cap) l) (hi : i ≤ l.length) : VarsV F w (.slice a i cap) (l.take i) := by
  obtain ⟨a', cap', hv, hc, hr⟩ := h
  cases hv
  refine ⟨a, cap, by rw [List.length_take, Nat.min_eq_left hi], by rw [List.length_take]; omega, fun h0 => ?_⟩
  rw [List.length_take, Nat.min_eq_left hi] at h0
  obtain ⟨b, q, ha, hF, hra⟩ := hr (by omega)
  refine ⟨b, q, ha, hF, fun j hj => ?_⟩
  rw [List.length_take, Nat.min_eq_left hi] at hj
  have := hra j (by omega)
  have e : (l.take i).getD j (ByteArray.empty, 0) = l.getD j (ByteArray.empty, 0) := by
    rw [List.getD_eq_getElem?_getD, List.getD_eq_getElem?_getD, List.getElem?_take, if_pos hj]
  show w.rangeAt b (q + j * 2) (vcell ((l.take i).getD j (ByteArray.empty, 0)))
  rw [e]
  exact this

theorem vcell_one (x : VarT) : ∀ u ∈ vcell x, u.oneCell' = true := by
  intro u hu
  simp [vcell] at hu
  rcases hu with rfl | rfl <;> rfl
def varZ : List Value := [.string ⟨#[]⟩, .int .i64 0]
theorem zero_var : ((Tryz.prog.info? 97).bind (·.zero)).map (·.cells) = some varZ.toArray := by kernel_rfl

theorem ahead_ret {w : World} {xb : Nat} {x : VarT} (h : Blk w xb (vcell x) 97) (y : VarT) :
    Ret Tryz.prog 69 [.agg (vcell y).toArray, .pointer (some ⟨xb, 0, none⟩)] w fun r w' => r = .bool (y.1.toList == x.1.toList) ∧ Keep [] w w' := by
  obtain ⟨ys, yz⟩ := y
  obtain ⟨xs, xz⟩ := x
  refine ret_of 9 Tryz.func69 rfl rfl (by simp) ?_
  refine au ?_
  refine pl_op rfl rfl (opTo_boxN [.string ys, .int .i64 yz] rfl rfl rfl ?_)
  intro w1 b hb0 hs1 hk1 hb1
  have h1 := hk1.blk h (by simp)
  unfold vcell at h1
  refine aub ?_
  refine pl_val _ rfl rfl (val_eqStr ys xs _ rfl rfl rfl rfl w1) ?_
  refine au ?_
  exact rn_ret Tryz.func69 (.inl ⟨_, rfl, rfl⟩) ⟨rfl, hk1⟩

def sameName (x y : VarT) : Bool := y.1.toList == x.1.toList

theorem index_ret {F : Nat → Prop} {w : World} {xb : Nat} {x : VarT} {lv : Value} {l : List VarT} (h : VarsV F w lv l) (hF : In F w) (hx : Blk w xb (vcell x) 97) (hl : l.length ≤ 1000) :
    Ret Tryz.prog 91 [lv, .func (.func 69) #[] #[.pointer (some ⟨xb, 0, none⟩)]] w fun r w' => (∃ j : Int, r = .int .i64 j ∧ decide (j ≥ 0) = l.any (sameName x)) ∧ Keep [] w w' := by
  obtain ⟨a, cap, rfl⟩ := h.form
  refine ret_of 19 Tryz.func91 rfl rfl (by simp) ?_
  refine au ?_
  refine rn_ind (fun m σ w' => ∃ i : Nat, i ≤ l.length ∧ m = l.length - i ∧ σ = [(0, .slice a l.length cap), (1, .func (.func 69) #[] #[.pointer (some ⟨xb, 0, none⟩)]), (7, .int .i64 (l.length : Nat)), (8, .int .i64 (i : Nat))] ∧ (l.take i).any (sameName x) = false ∧ Keep [] w w')
    l.length _ ?_ ⟨0, by omega, by omega, rfl, by simp, Keep.refl _ _⟩ ?_
  · exact ⟨rfl, rfl, rfl, rfl, trivial⟩
  rintro m σ w2 ih ⟨i, hi, rfl, rfl, hany, hk2⟩
  refine au ?_
  by_cases hlt : i < l.length
  · refine ye ?_
    refine au ?_
    have hget : l[i]? = some l[i] := List.getElem?_eq_getElem hlt
    obtain ⟨bb, q, cap', hv, _, hra⟩ := (h.keep hk2 hF.stays).at hget
    cases hv
    refine pl_val _ rfl rfl (val_index i hT rfl rfl rfl rfl rfl hlt w2) ?_
    refine pl_val _ rfl rfl (val_load (vcell l[i]) hT rfl rfl rfl hra) ?_
    refine pl_op rfl rfl (opTo_call (fst := []) (cap := [.pointer (some ⟨xb, 0, none⟩)]) rfl rfl rfl rfl (by decide +kernel) ((ahead_ret (hk2.blk hx (by simp)) l[i]).mono ?_))
    rintro v3 w3 ⟨rfl, hk3⟩
    have hsu : (l.take (i + 1)).any (sameName x) = sameName x l[i] := by
      rw [List.take_succ_eq_append_getElem hlt, List.any_append, hany]
      simp
    cases hb : (l[i].1.toList == x.1.toList) with
    | true =>
      refine au ?_
      refine rn_ret Tryz.func91 (.inl ⟨_, rfl, rfl⟩) ⟨⟨_, rfl, ?_⟩, hk2.tr hk3⟩
      have : l.any (sameName x) = true := List.any_eq_true.2 ⟨l[i], List.getElem_mem hlt, hb⟩
      rw [this]
      simp
    | false =>
      refine au ?_
      refine pl_num (((i + 1 : Nat) : Int)) rfl rfl rfl rfl rfl (by simp only [ariP]; omega) ?_
      refine au ?_
      refine rn_sub ?_ (ih (l.length - (i + 1)) [(0, .slice (some ⟨bb, q, none⟩) l.length cap), (1, .func (.func 69) #[] #[.pointer (some ⟨xb, 0, none⟩)]), (7, .int .i64 (l.length : Nat)), (8, .int .i64 ((i + 1 : Nat) : Int))] w3 (by omega) ⟨i + 1, by omega, rfl, rfl, ?_, hk2.tr hk3⟩)
      · exact ⟨rfl, rfl, rfl, rfl, trivial⟩
      · rw [hsu]; exact hb
  · refine nay ?_
    refine au ?_
    refine rn_ret Tryz.func91 (.inl ⟨_, rfl, rfl⟩) ⟨⟨_, rfl, ?_⟩, hk2⟩
    rw [List.take_of_length_le (by omega)] at hany
    rw [hany]
    rfl

theorem contains_ret {F : Nat → Prop} {w : World} {xb : Nat} {x : VarT} {lv : Value} {l : List VarT} (h : VarsV F w lv l) (hF : In F w) (hx : Blk w xb (vcell x) 97) (hl : l.length ≤ 1000) :
    Ret Tryz.prog 68 [lv, .func (.func 69) #[] #[.pointer (some ⟨xb, 0, none⟩)]] w fun r w' => r = .bool (l.any (sameName x)) ∧ Keep [] w w' := by
  refine ret_of 9 Tryz.func68 rfl rfl (by simp) ?_
  refine au ?_
  refine pl_op rfl rfl (opTo_call rfl rfl rfl rfl (by decide +kernel) ((index_ret h hF hx hl).mono ?_))
  rintro v1 w1 ⟨⟨j, rfl, hj⟩, hk1⟩
  refine pl_val (.bool (l.any (sameName x))) rfl rfl (val_int .i64 _ _ _ rfl rfl rfl (by simp only [intOp, ← hj]) w1) ?_
  refine au ?_
  exact rn_ret Tryz.func68 (.inl ⟨_, rfl, rfl⟩) ⟨rfl, hk1⟩

theorem chkV_at {vs : List VarT} {i : Nat} {x : VarT} (hx : vs[i]? = some x) : chkV ((vs.take i).map (·.1)) (sumV (vs.take i)) (vs.drop i) =
    if nameOk x.1 = false then 8 else if (vs.take i).any (sameName x) = true then 9 else if x.2 < 1 ∨ x.2 > 48 ∨ sumV (vs.take i) + x.2 > 48 then 1 else chkV ((vs.take (i + 1)).map (·.1)) (sumV (vs.take (i + 1))) (vs.drop (i + 1)) := by
  obtain ⟨hlt, e⟩ := List.getElem?_eq_some_iff.1 hx
  rw [List.drop_eq_getElem_cons hlt, e]
  rw [sumV_take_succ hx, List.take_succ_eq_append_getElem hlt, e, List.map_append]
  simp only [chkV, List.any_map, List.map_cons, List.map_nil]
  rfl

theorem checkVars_ret {F : Nat → Prop} {w : World} {x : Value} {vs : List VarT} (h : VarsV F w x vs) (hF : In F w) :
    Ret Tryz.prog 54 [x] w fun r w' => r = .int .i64 (if vs.length > 8 then 3 else chkV [] 0 vs) ∧ Keep [] w w' := by
  obtain ⟨a, cap, rfl⟩ := h.form
  refine ret_of 42 Tryz.func54 rfl rfl (by simp) ?_
  refine au ?_
  by_cases h8 : vs.length > 8
  · refine ye ?_
    refine au ?_
    exact rn_ret Tryz.func54 (.inl ⟨_, rfl, rfl⟩) ⟨by rw [if_pos h8], Keep.refl _ _⟩
  rw [if_neg h8]
  refine nay ?_
  refine au ?_
  refine rn_ind (fun m σ w' => ∃ i : Nat, i ≤ vs.length ∧ m = vs.length - i ∧ σ = [(0, .slice a vs.length cap), (3, .int .i64 (48 - sumV (vs.take i))), (9, .slice a vs.length cap), (10, .int .i64 (vs.length : Nat)), (11, .int .i64 (i : Nat))] ∧
    chkV [] 0 vs = chkV ((vs.take i).map (·.1)) (sumV (vs.take i)) (vs.drop i) ∧ 0 ≤ sumV (vs.take i) ∧ sumV (vs.take i) ≤ 48 ∧ Keep [] w w') vs.length _ ?_ ⟨0, by omega, by omega, rfl, by simp [sumV], by simp [sumV], by simp [sumV], Keep.refl _ _⟩ ?_
  · exact ⟨rfl, rfl, rfl, rfl, rfl, trivial⟩
  rintro m σ w2 ih ⟨i, hi, rfl, rfl, hch, hs0, hs1, hk2⟩
  refine au ?_
  by_cases hlt : i < vs.length
  · refine ye ?_
    refine au ?_
    have hget : vs[i]? = some vs[i] := List.getElem?_eq_getElem hlt
    obtain ⟨nm, sz, hnz⟩ : ∃ nm sz, vs[i] = (nm, sz) := ⟨_, _, rfl⟩
    rw [hnz] at hget
    rw [chkV_at hget] at hch
    have hsu : sumV (vs.take (i + 1)) = sumV (vs.take i) + sz := sumV_take_succ hget
    replace hch : chkV [] 0 vs = if nameOk nm = false then 8 else if (vs.take i).any (sameName (nm, sz)) = true then 9 else if sz < 1 ∨ sz > 48 ∨ sumV (vs.take i) + sz > 48 then 1 else chkV ((vs.take (i + 1)).map (·.1)) (sumV (vs.take (i + 1))) (vs.drop (i + 1)) := hch
    have h2 := h.keep hk2 hF.stays
    have hF2 := hF.keep hk2
    obtain ⟨bb, q, cap', hv, _, hra⟩ := h2.at hget
    cases hv
    refine pl_val _ rfl rfl (val_index i hT rfl rfl rfl rfl rfl hlt w2) ?_
    refine pl_val _ rfl rfl (val_load (vcell (nm, sz)) hT rfl rfl rfl hra) ?_
    refine pl_op rfl rfl (opTo_allocN _ rfl zero_var ?_)
    intro w3 c hc3 hsz3 hk3 hc
    refine au ?_
    refine pl_op rfl rfl (opTo_storeN _ rfl rfl rfl rfl (by kernel_rfl) hc (by simp [vcell, varZ]) (vcell_one _) ?_)
    intro w4 hs4 hk4 hc4
    rw [splice_whole (by rfl)] at hc4
    have hk24 : Keep [] w2 w4 := hk3.trB hk4 (by omega)
    have hkw4 := hk2.tr hk24
    refine au ?_
    refine pl_val _ rfl rfl (val_load1 hT rfl rfl rfl (hc4.cell rfl)) ?_
    refine pl_op rfl rfl (opTo_call rfl rfl rfl rfl (by decide +kernel) ((name_ret nm w4).mono ?_))
    rintro v5 w5 ⟨rfl, rfl⟩
    cases hnm : nameOk nm with
    | false =>
      refine au ?_
      exact rn_ret Tryz.func54 (.inl ⟨_, rfl, rfl⟩) ⟨by rw [hch, if_pos hnm], hkw4⟩
    | true =>
      rw [hnm, if_neg (by simp)] at hch
      refine au ?_
      refine pl_val _ rfl rfl (val_sliceTo i hT rfl rfl rfl rfl rfl ?_ w5) ?_
      · have := h.room; omega
      refine au ?_
      refine pl_op rfl rfl (opTo_call rfl rfl rfl rfl (by decide +kernel) ((contains_ret ((h2.keep hk24 hF2.stays).cut hi) (hF2.keep hk24) hc4 (by rw [List.length_take]; omega)).mono ?_))
      rintro v6 w6 ⟨rfl, hk6⟩
      cases hany : (vs.take i).any (sameName (nm, sz)) with
      | true =>
        refine au ?_
        exact rn_ret Tryz.func54 (.inl ⟨_, rfl, rfl⟩) ⟨by rw [hch, if_pos hany], hkw4.tr hk6⟩
      | false =>
        rw [hany, if_neg (by simp)] at hch
        have hc6 := hk6.blk hc4 (by simp)
        unfold vcell at hc6
        by_cases h1 : sz < 1
        · refine aub ?_
          exact rn_ret Tryz.func54 (.inl ⟨_, rfl, rfl⟩) ⟨by rw [hch, if_pos (.inl h1)], hkw4.tr hk6⟩
        · by_cases h3 : sz > 48 - sumV (vs.take i)
          · refine aub ?_
            exact rn_ret Tryz.func54 (.inl ⟨_, rfl, rfl⟩) ⟨by rw [hch, if_pos (by omega)], hkw4.tr hk6⟩
          · rw [if_neg (by omega)] at hch
            refine aub ?_
            refine pl_num (48 - sumV (vs.take (i + 1))) rfl rfl rfl rfl rfl (by simp only [ariP]; omega) ?_
            refine au ?_
            refine pl_num (((i + 1 : Nat) : Int)) rfl rfl rfl rfl rfl (by simp only [ariP]; omega) ?_
            refine au ?_
            refine rn_sub ?_ (ih (vs.length - (i + 1)) [(0, .slice (some ⟨bb, q, none⟩) vs.length cap), (3, .int .i64 (48 - sumV (vs.take (i + 1)))), (9, .slice (some ⟨bb, q, none⟩) vs.length cap), (10, .int .i64 (vs.length : Nat)), (11, .int .i64 ((i + 1 : Nat) : Int))] w6 (by omega)
              ⟨i + 1, by omega, rfl, rfl, hch, by omega, by omega, hkw4.tr hk6⟩)
            exact ⟨rfl, rfl, rfl, rfl, rfl, trivial⟩
  · refine nay ?_
    refine au ?_
    refine rn_ret Tryz.func54 (.inl ⟨_, rfl, rfl⟩) ⟨?_, hk2⟩
    rw [hch, List.drop_eq_nil_of_le (by omega)]
    rfl
end E
end Go.Proofs.YtmplkogkphmmjagGreat

/- Contracts of Check, Cell, Cells, and of the document's Great. -/
namespace Go.Proofs.YtmplkogkphmmjagGreat
set_option maxRecDepth 20000
set_option maxHeartbeats 4000000
namespace E
open Go.Proofs

theorem zero_int : ((Tryz.prog.info? 3).bind (·.zero)).map (·.cells) = some [Value.int .i64 0].toArray := by kernel_rfl

theorem check_ret {F : Nat → Prop} {w : World} {x : Value} {vs : List VarT} {body : List ST} (h : ProgV F w x vs body) (hF : In F w) (hsz : szSs body ≤ 100000) :
    Ret Tryz.prog 36 [x] w fun r w' => r = .int .i64 (progFault vs body) ∧ Keep [] w w' := by
  obtain ⟨vv, bv, rfl, hv, hb⟩ := h
  obtain ⟨av, capv, rfl⟩ := hv.form
  obtain ⟨ab, capb, rfl⟩ := hb.form
  refine ret_of 15 Tryz.func36 rfl rfl (by simp) ?_
  refine au ?_
  refine pl_op rfl rfl (opTo_boxN [.slice av vs.length capv, .slice ab body.length capb] rfl rfl rfl ?_)
  intro w1 pb hpb hs1 hk1 hb1
  refine au ?_
  refine pl_val _ rfl rfl (val_load1 hT rfl rfl rfl (hb1.cell rfl)) ?_
  refine pl_op rfl rfl (opTo_call rfl rfl rfl rfl (by decide +kernel) ((checkVars_ret (hv.keep hk1 hF.stays) (hF.keep hk1)).mono ?_))
  rintro v2 w2 ⟨rfl, hk2⟩
  have hkw2 := hk1.tr hk2
  refine au ?_
  unfold progFault
  by_cases h8 : vs.length > 8
  · rw [if_pos h8, if_pos h8]
    refine ye ?_
    refine au ?_
    exact rn_ret Tryz.func36 (.inl ⟨_, rfl, rfl⟩) ⟨rfl, hkw2⟩
  rw [if_neg h8, if_neg h8]
  generalize chkV [] 0 vs = cd
  by_cases hz : cd = 0
  · subst hz
    rw [if_neg (by simp)]
    refine nay ?_
    refine au ?_
    refine pl_op rfl rfl (opTo_allocN _ rfl zero_int ?_)
    intro w3 m hm3 hs3 hk3 hm
    refine pl_op rfl rfl (opTo_storeN _ rfl rfl rfl rfl (by kernel_rfl) hm (by simp) (by simp; rfl) ?_)
    intro w4 hs4 hk4 hm4
    rw [splice_whole (by rfl)] at hm4
    have hkw4 : Keep [] w w4 := (hkw2.tr hk3).trB hk4 (by have := hkw2.size; omega)
    have hp4 := hk4.blk (hk3.blk (hk2.blk hb1 (by simp)) (by simp)) (by simp; have := (hk2.blk hb1 (by simp)).lt; omega)
    refine au ?_
    refine pl_val _ rfl rfl (val_load1 hT rfl rfl rfl (hp4.cell rfl)) ?_
    refine au ?_
    refine pl_op rfl rfl (opTo_call rfl rfl rfl rfl (by decide +kernel) ((lookStmts_ret _ body (Nat.lt_succ_self _) hsz 0 0 (hb.keep hkw4 hF.stays) (hF.keep hkw4) (fun h => by have := hF m h; have := hkw2.size; omega) ⟨hm4, hp4⟩ (by omega) (by omega)).mono ?_))
    rintro v5 w5 ⟨rfl, _, hk5⟩
    refine au ?_
    exact rn_ret Tryz.func36 (.inl ⟨_, rfl, rfl⟩) ⟨rfl, hkw4.trB hk5 (by have := hkw2.size; omega)⟩
  · rw [if_pos hz]
    refine ye ?_
    refine au ?_
    exact rn_ret Tryz.func36 (.inl ⟨_, rfl, rfl⟩) ⟨rfl, hkw2⟩

theorem val_min {P : Program} {n : Nat} {σ : Env} {o : Oper} {x y : Operand} {t t' : TypeId} {a b : Int} (r : Int) (ho : o.op = .call { callee := .builtin .min, args := #[x, y], argTypes := #[t, t'] }) (hx : ev σ x = some (.int .i64 a)) (hy : ev σ y = some (.int .i64 b)) (hr : min a b = r) (w : World) : Val P n σ o w (.int .i64 r) := by
  intro ac ha
  subst hr
  have e : (if b < a then b else a) = min a b := by
    split <;> omega
  simp [execOp, ho, resolve, invoke, builtin, Builtin.min_, Builtin.min2, ha.eval hx, ha.eval hy, e]

def Sized (vs : List VarT) : Prop := vs.length ≤ 30 ∧ ∀ x ∈ vs, 0 ≤ x.2 ∧ x.2 ≤ 1000
theorem Sized.sum {vs : List VarT} (h : Sized vs) (i : Nat) (hi : i ≤ vs.length) : 0 ≤ sumV (vs.take i) ∧ sumV (vs.take i) ≤ 1000 * (i : Int) := by
  induction i with
  | zero => simp [sumV]
  | succ i ih =>
    obtain ⟨h1, h2⟩ := ih (by omega)
    have hget : vs[i]? = some vs[i] := List.getElem?_eq_getElem (by omega)
    have h3 := h.2 vs[i] (List.getElem_mem _)
    rw [sumV_take_succ hget]
    omega

theorem cell_ret {F : Nat → Prop} {w : World} {x : Value} {vs : List VarT} {body : List ST} (h : ProgV F w x vs body) (hF : In F w) (hs : Sized vs) (v : Int) :
    Ret Tryz.prog 39 [x, .int .i64 v] w fun r w' => r = .int .i64 (cellOf vs v) ∧ Keep [] w w' := by
  obtain ⟨vv, bv, rfl, hv, hb⟩ := h
  obtain ⟨av, capv, rfl⟩ := hv.form
  obtain ⟨ab, capb, rfl⟩ := hb.form
  have hl30 := hs.1
  refine ret_of 25 Tryz.func39 rfl rfl (by simp) ?_
  refine au ?_
  refine pl_op rfl rfl (opTo_boxN [.slice av vs.length capv, .slice ab body.length capb] rfl rfl rfl ?_)
  intro w1 pb hpb hs1 hk1 hb1
  refine au ?_
  refine pl_val _ rfl rfl (val_load1 hT rfl rfl rfl (hb1.cell rfl)) ?_
  refine au ?_
  refine pl_val _ rfl rfl (val_min (min v (vs.length : Nat)) rfl rfl rfl rfl w1) ?_
  refine au ?_
  refine rn_ind (fun q σ w' => ∃ i : Nat, i ≤ vs.length ∧ ((i : Int) ≤ v ∨ i = 0) ∧ q = vs.length - i ∧ σ = [(2, .pointer (some ⟨pb, 0, none⟩)), (5, .int .i64 (sumV (vs.take i))), (11, .int .i64 (min v (vs.length : Nat))), (12, .int .i64 (i : Nat))] ∧ w' = w1) vs.length _ ?_ ⟨0, by omega, by omega, by omega, rfl, rfl⟩ ?_
  · exact ⟨rfl, rfl, rfl, rfl, trivial⟩
  rintro q σ w2 ih ⟨i, hi, hiv, rfl, rfl, rfl⟩
  refine au ?_
  by_cases hlt : (i : Int) < min v (vs.length : Nat)
  · refine ye ?_
    refine au ?_
    refine pl_val _ rfl rfl (val_load1 hT rfl rfl rfl (hb1.cell rfl)) ?_
    refine au ?_
    have hl : i < vs.length := by omega
    have hget : vs[i]? = some vs[i] := List.getElem?_eq_getElem hl
    have hsu := sumV_take_succ hget
    have hb2 := hs.sum (i + 1) (by omega)
    obtain ⟨bb, q, cap', hv', _, hra⟩ := (hv.keep hk1 hF.stays).at hget
    cases hv'
    refine pl_val _ rfl rfl (val_index i hT rfl rfl rfl rfl rfl hl w2) ?_
    refine au ?_
    refine pl_val _ rfl rfl (val_load1 hT rfl rfl rfl (hra 1 (.int .i64 vs[i].2) rfl)) ?_
    refine pl_num (sumV (vs.take (i + 1))) rfl rfl rfl rfl rfl (by simp only [ariP]; omega) ?_
    refine au ?_
    refine pl_num (((i + 1 : Nat) : Int)) rfl rfl rfl rfl rfl (by simp only [ariP]; omega) ?_
    refine au ?_
    refine rn_sub ?_ (ih (vs.length - (i + 1)) [(2, .pointer (some ⟨pb, 0, none⟩)), (5, .int .i64 (sumV (vs.take (i + 1)))), (11, .int .i64 (min v (vs.length : Nat))), (12, .int .i64 ((i + 1 : Nat) : Int))] w2 (by omega) ⟨i + 1, by omega, by omega, rfl, rfl, rfl⟩)
    exact ⟨rfl, rfl, rfl, rfl, trivial⟩
  · refine nay ?_
    refine au ?_
    refine rn_ret Tryz.func39 (.inl ⟨_, rfl, rfl⟩) ⟨?_, hk1⟩
    unfold cellOf
    rcases Nat.lt_or_ge i vs.length with h' | h'
    · rw [show v.toNat = i by omega]
    · rw [List.take_of_length_le (by omega), List.take_of_length_le (by omega)]

theorem cells_ret {F : Nat → Prop} {w : World} {x : Value} {vs : List VarT} {body : List ST} (h : ProgV F w x vs body) (hF : In F w) (hs : Sized vs) :
    Ret Tryz.prog 22 [x] w fun r w' => r = .int .i64 (cellOf vs (vs.length : Nat)) ∧ Keep [] w w' := by
  obtain ⟨vv, bv, rfl, hv, hb⟩ := h
  obtain ⟨av, capv, rfl⟩ := hv.form
  obtain ⟨ab, capb, rfl⟩ := hb.form
  refine ret_of 8 Tryz.func22 rfl rfl (by simp) ?_
  refine au ?_
  refine pl_op rfl rfl (opTo_boxN [.slice av vs.length capv, .slice ab body.length capb] rfl rfl rfl ?_)
  intro w1 pb hpb hs1 hk1 hb1
  refine au ?_
  refine pl_val _ rfl rfl (val_load [.slice av vs.length capv, .slice ab body.length capb] hT rfl rfl rfl (hb1.range (by rfl))) ?_
  refine au ?_
  refine pl_val _ rfl rfl (val_load1 hT rfl rfl rfl (hb1.cell rfl)) ?_
  refine au ?_
  refine pl_op rfl rfl (opTo_call rfl rfl rfl rfl (by decide +kernel) ((cell_ret (F := F) ⟨_, _, rfl, hv.keep hk1 hF.stays, hb.keep hk1 hF.stays⟩ (hF.keep hk1) hs (vs.length : Nat)).mono ?_))
  rintro v2 w2 ⟨rfl, hk2⟩
  refine au ?_
  exact rn_ret Tryz.func22 (.inl ⟨_, rfl, rfl⟩) ⟨rfl, hk1.tr hk2⟩

theorem great_ret {F : Nat → Prop} {w : World} {x : Value} {vs : List VarT} {body : List ST} (h : ProgV F w x vs body) (hF : In F w) :
    Ret Tryz.prog 18 [x] w fun r w' => (∃ g : Bool, r = .bool g ∧ (g = false → vs.length ≤ 30 ∧ (∀ y ∈ vs, y.1.size ≤ 100) ∧ szSs body ≤ 900)) ∧ Keep [] w w' := by
  obtain ⟨vv, bv, rfl, hv, hb⟩ := h
  obtain ⟨av, capv, rfl⟩ := hv.form
  obtain ⟨ab, capb, rfl⟩ := hb.form
  refine ret_of 33 Tryz.func18 rfl rfl (by simp) ?_
  refine au ?_
  refine pl_op rfl rfl (opTo_boxN [.slice av vs.length capv, .slice ab body.length capb] rfl rfl rfl ?_)
  intro w1 pb hpb hs1 hk1 hb1
  refine au ?_
  refine rn_ind (fun q σ w' => ∃ i : Nat, i ≤ vs.length ∧ i ≤ 30 ∧ q = vs.length - i ∧ σ = [(1, .pointer (some ⟨pb, 0, none⟩)), (3, .int .i64 (i : Nat))] ∧ (∀ y ∈ vs.take i, y.1.size ≤ 100) ∧ w' = w1) vs.length _ ?_ ⟨0, by omega, by omega, by omega, rfl, by simp, rfl⟩ ?_
  · exact ⟨rfl, rfl, trivial⟩
  rintro q σ w2 ih ⟨i, hi, hi30, rfl, rfl, hall, rfl⟩
  refine au ?_
  refine pl_val _ rfl rfl (val_load1 hT rfl rfl rfl (hb1.cell rfl)) ?_
  refine au ?_
  by_cases hlt : i < vs.length
  · refine ye ?_
    refine au ?_
    by_cases h30 : i < 30
    · refine ye ?_
      refine au ?_
      refine pl_val _ rfl rfl (val_load1 hT rfl rfl rfl (hb1.cell rfl)) ?_
      refine au ?_
      have hget : vs[i]? = some vs[i] := List.getElem?_eq_getElem hlt
      obtain ⟨bb, q, cap', hv', _, hra⟩ := (hv.keep hk1 hF.stays).at hget
      cases hv'
      refine pl_val _ rfl rfl (val_index i hT rfl rfl rfl rfl rfl hlt w2) ?_
      refine au ?_
      refine pl_val _ rfl rfl (val_load1 hT rfl rfl rfl (hra 0 (.string vs[i].1) rfl)) ?_
      refine pl_val _ rfl rfl (val_strLen vs[i].1 (by decide +kernel) rfl rfl w2) ?_
      by_cases h100 : vs[i].1.size > 100
      · refine ye ?_
        refine au ?_
        exact rn_ret Tryz.func18 (.inl ⟨_, rfl, rfl⟩) ⟨⟨true, rfl, fun h => by cases h⟩, hk1⟩
      · refine nay ?_
        refine au ?_
        refine pl_num (((i + 1 : Nat) : Int)) rfl rfl rfl rfl rfl (by simp only [ariP]; omega) ?_
        refine au ?_
        refine rn_sub ?_ (ih (vs.length - (i + 1)) [(1, .pointer (some ⟨pb, 0, none⟩)), (3, .int .i64 ((i + 1 : Nat) : Int))] w2 (by omega) ⟨i + 1, by omega, by omega, rfl, rfl, ?_, rfl⟩)
        · exact ⟨rfl, rfl, trivial⟩
        · intro y hy
          rw [List.take_succ_eq_append_getElem hlt] at hy
          rcases List.mem_append.1 hy with hy | hy
          · exact hall y hy
          · simp at hy
            subst hy
            omega
    · refine nay ?_
      refine au ?_
      refine pl_val _ rfl rfl (val_load1 hT rfl rfl rfl (hb1.cell rfl)) ?_
      refine au ?_
      refine ye ?_
      refine au ?_
      exact rn_ret Tryz.func18 (.inl ⟨_, rfl, rfl⟩) ⟨⟨true, rfl, fun h => by cases h⟩, hk1⟩
  · refine nay ?_
    refine au ?_
    refine pl_val _ rfl rfl (val_load1 hT rfl rfl rfl (hb1.cell rfl)) ?_
    refine au ?_
    refine nay ?_
    refine au ?_
    refine pl_val _ rfl rfl (val_load1 hT rfl rfl rfl (hb1.cell rfl)) ?_
    refine pl_op rfl rfl (opTo_call rfl rfl rfl rfl (by decide +kernel) ((stmtParts_ret _ body (Nat.lt_succ_self _) 900 (hb.keep hk1 hF.stays) (hF.keep hk1) (by omega)).mono ?_))
    rintro v3 w3 ⟨c, rfl, ⟨hc1, hc2, hc3⟩, hk3⟩
    refine pl_val (.bool (decide (c > 900))) rfl rfl (val_int .i64 _ _ _ rfl rfl rfl (by simp only [intOp]; congr 2; simp; omega) w3) ?_
    refine au ?_
    refine rn_ret Tryz.func18 (.inl ⟨_, rfl, rfl⟩) ⟨⟨_, rfl, fun h => ?_⟩, hk1.tr hk3⟩
    rw [List.take_of_length_le (by omega)] at hall
    refine ⟨by omega, hall, ?_⟩
    simp at h
    omega
end E
end Go.Proofs.YtmplkogkphmmjagGreat

/- What the laws of package compile take of it; their first look. -/
namespace Go.Proofs.YtmplkogkphmmjagGreat
set_option maxRecDepth 20000
set_option maxHeartbeats 4000000
namespace E
open Go.Proofs

/-- What is to be shown of package compile. -/
structure MkC : Prop where
  make : ∀ {F : Nat → Prop} {w : World} {x : Value} {vs : List VarT} {body : List ST}, ProgV F w x vs body → In F w → vs.length ≤ 100000 → szSs body ≤ 100000 →
    Ret Tryz.prog 19 [x] w fun r w' => (∃ v, r = .tuple #[v, .int .i64 (progFault vs body)] ∧ InsV (fun c => w.heap.size ≤ c ∧ c < w'.heap.size) w' v (makeOf vs body)) ∧ Keep [] w w'

theorem prog_fit {vs : List VarT} {body : List ST} (h : progFault vs body = 0) : Sized vs ∧ Big vs ∧ gdSs vs.length body ∧ 0 ≤ sumV vs ∧ sumV vs ≤ 48 := by
  obtain ⟨h8, hv, k, hc⟩ := progFault_ok h
  obtain ⟨h1, h2⟩ := chkV_sizes hv
  have h3 : Big vs := fun x hx => (h1 x hx).1
  exact ⟨⟨by omega, fun x hx => by have := h1 x hx; omega⟩, h3, chkSs_gd body hc, sumV_big h3, by omega⟩

/-! ### The first look -/
def kz : List Value := [.int .i64 0, .int .i64 0, .int .i64 0, .slice none 0 0]
def ke : List Value := [.int .i64 1, .int .i64 0, .int .i64 5, .slice none 0 0]
def ks : List Value := scells 3 0 ke kz (.slice none 0 0) (.slice none 0 0)
def kE : ET := .mk 1 0 5 []
def kS : List ST := [.mk 3 0 kE zeroT [] []]
def kI : List Is := [(1, 0, 0, 5), (11, 0, 0, 0), (16, 0, 0, 0)]
theorem k_make : makeOf [] kS = kI := by kernel_rfl
theorem k_fault : progFault [] kS = 0 := by kernel_rfl
theorem built_ke : Tryz.prog.built 94 [(0, .int .i64 1), (2, .int .i64 5)] = some ke.toArray := by kernel_rfl
theorem built_ks : Tryz.prog.built 99 [(0, .int .i64 3), (2, .agg ke.toArray)] = some ks.toArray := by kernel_rfl
theorem slice_ks : sliceCells Tryz.prog 23 1 [(0, .agg ks.toArray)] = some (99, ks.toArray) := by kernel_rfl
theorem built_kp (b : Nat) : Tryz.prog.built 25 [(1, .slice (some ⟨b, 0, none⟩) 1 1)] = some [Value.slice none 0 0, .slice (some ⟨b, 0, none⟩) 1 1].toArray := by kernel_rfl

end E
end Go.Proofs.YtmplkogkphmmjagGreat
