/- One statement, one expression of a row, field by field. -/
import Derived.Test.YtpbdjpoohpocfabStep
namespace Go.Proofs.Ytpbdjpoohpocfab
set_option maxRecDepth 20000
set_option maxHeartbeats 4000000
namespace E

theorem range_sub {w : World} {b p : Nat} {cs ds : List Value} (h : w.rangeAt b p cs) (k : Nat) (hd : (cs.drop k).take ds.length = ds) : w.rangeAt b (p + k) ds := fun j u hu => by
  rw [← hd, List.getElem?_take] at hu
  split at hu
  · rw [List.getElem?_drop] at hu
    have := h (k + j) u hu
    rwa [← Nat.add_assoc] at this
  · cases hu

def scells (op v : Int) (ce cf : List Value) (bv ov : Value) : List Value := [.int .i64 op, .int .i64 v] ++ ce ++ cf ++ [bv, ov]

/-- The statement at p of block b, field by field. -/
structure StmtAt (F : Nat → Prop) (w : World) (b p : Nat) (op v : Int) (e f : ET) (lb lo : List ST) (ce cf : List Value) (bv ov : Value) : Prop where
  whole : w.rangeAt b p (scells op v ce cf bv ov)
  cop : w.cell? ⟨b, p + 0, none⟩ = some (.int .i64 op)
  cv : w.cell? ⟨b, p + 1, none⟩ = some (.int .i64 v)
  re : w.rangeAt b (p + 2) ce
  rf : w.rangeAt b (p + 6) cf
  cb : w.cell? ⟨b, p + 10, none⟩ = some bv
  co : w.cell? ⟨b, p + 11, none⟩ = some ov
  he : ExprV F w ce e
  hf : ExprV F w cf f
  hb : StmtsV F w bv lb
  ho : StmtsV F w ov lo
  inF : F b

theorem list4 {cs : List Value} (h : cs.length = 4) : ∃ a b c d, cs = [a, b, c, d] := by
  match cs, h with
  | [a, b, c, d], _ => exact ⟨a, b, c, d, rfl⟩

theorem stmtAt_mk {F : Nat → Prop} {w : World} {b p : Nat} {op v : Int} {e f : ET} {lb lo : List ST} {ce cf : List Value} {bv ov : Value} (h : w.rangeAt b p (scells op v ce cf bv ov)) (hF : F b) (he : ExprV F w ce e) (hf : ExprV F w cf f) (hb : StmtsV F w bv lb) (ho : StmtsV F w ov lo) : StmtAt F w b p op v e f lb lo ce cf bv ov := by
  obtain ⟨a0, a1, a2, a3, rfl⟩ := list4 he.length
  obtain ⟨b0, b1, b2, b3, rfl⟩ := list4 hf.length
  exact ⟨h, h 0 _ rfl, h 1 _ rfl, range_sub h 2 rfl, range_sub h 6 rfl, h 10 _ rfl, h 11 _ rfl, he, hf, hb, ho, hF⟩

theorem StmtsV.stmtAt {F : Nat → Prop} {w : World} {x : Value} {l : List ST} (h : StmtsV F w x l) {i : Nat} {op v : Int} {e f : ET} {lb lo : List ST} (ht : l[i]? = some (.mk op v e f lb lo)) :
    ∃ b q cap ce cf bv ov, x = .slice (some ⟨b, q, none⟩) l.length cap ∧ StmtAt F w b (q + i * 12) op v e f lb lo ce cf bv ov := by
  obtain ⟨b, q, cap, ci, hv, hF, hra, hci⟩ := h.at ht
  obtain ⟨ce, cf, bv, ov, rfl, he, hf, hb, ho⟩ := hci.inv
  exact ⟨b, q, cap, ce, cf, bv, ov, hv, stmtAt_mk hra hF he hf hb ho⟩

theorem StmtAt.keep {F : Nat → Prop} {w w' : World} {b p : Nat} {op v : Int} {e f : ET} {lb lo : List ST} {ce cf : List Value} {bv ov : Value} {fp : List Nat} (h : StmtAt F w b p op v e f lb lo ce cf bv ov) (hk : Keep fp w w') (hs : Stays F w fp) : StmtAt F w' b p op v e f lb lo ce cf bv ov :=
  stmtAt_mk (range_keep h.whole hk (hs b h.inF).1 (hs b h.inF).2) h.inF (h.he.keep hk hs) (h.hf.keep hk hs) (h.hb.keep hk hs) (h.ho.keep hk hs)
theorem StmtAt.stmt {F : Nat → Prop} {w : World} {b p : Nat} {op v : Int} {e f : ET} {lb lo : List ST} {ce cf : List Value} {bv ov : Value} (h : StmtAt F w b p op v e f lb lo ce cf bv ov) : StmtV F w (scells op v ce cf bv ov) (.mk op v e f lb lo) := StmtV.of h.he h.hf h.hb h.ho

/-- The expression at p of block b, field by field. -/
structure ExprAt (F : Nat → Prop) (w : World) (b p : Nat) (op v n : Int) (l : List ET) (lv : Value) : Prop where
  whole : w.rangeAt b p [.int .i64 op, .int .i64 v, .int .i64 n, lv]
  cop : w.cell? ⟨b, p + 0, none⟩ = some (.int .i64 op)
  cv : w.cell? ⟨b, p + 1, none⟩ = some (.int .i64 v)
  cn : w.cell? ⟨b, p + 2, none⟩ = some (.int .i64 n)
  cl : w.cell? ⟨b, p + 3, none⟩ = some lv
  hl : ExprsV F w lv l
  inF : F b
theorem exprAt_mk {F : Nat → Prop} {w : World} {b p : Nat} {op v n : Int} {l : List ET} {lv : Value} (h : w.rangeAt b p [.int .i64 op, .int .i64 v, .int .i64 n, lv]) (hF : F b) (hl : ExprsV F w lv l) : ExprAt F w b p op v n l lv :=
  ⟨h, h 0 _ rfl, h 1 _ rfl, h 2 _ rfl, h 3 _ rfl, hl, hF⟩
theorem ExprsV.exprAt {F : Nat → Prop} {w : World} {x : Value} {l : List ET} (h : ExprsV F w x l) {i : Nat} {op v n : Int} {l' : List ET} (ht : l[i]? = some (.mk op v n l')) :
    ∃ b q cap lv, x = .slice (some ⟨b, q, none⟩) l.length cap ∧ ExprAt F w b (q + i * 4) op v n l' lv := by
  obtain ⟨b, q, cap, ci, hv, hF, hra, hci⟩ := h.at ht
  obtain ⟨lv, rfl, hl⟩ := hci.inv
  exact ⟨b, q, cap, lv, hv, exprAt_mk hra hF hl⟩
theorem ExprAt.expr {F : Nat → Prop} {w : World} {b p : Nat} {op v n : Int} {l : List ET} {lv : Value} (h : ExprAt F w b p op v n l lv) : ExprV F w [.int .i64 op, .int .i64 v, .int .i64 n, lv] (.mk op v n l) := ExprV.of h.hl
end E
end Go.Proofs.Ytpbdjpoohpocfab
