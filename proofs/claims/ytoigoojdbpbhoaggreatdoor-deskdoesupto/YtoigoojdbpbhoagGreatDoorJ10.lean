/- Texts StoO StoP MoA MoB MoM MoC MoD MaK MaH MnA MwB MwC MwD MwE MwF. -/
import Derived.Test.YtoigoojdbpbhoagGreatDoorSStoN
import Derived.Test.YtoigoojdbpbhoagGreatDoorJ00
import Derived.Test.YtoigoojdbpbhoagGreatDoorJ04
import Derived.Test.YtoigoojdbpbhoagGreatDoorJ03
namespace Go.Proofs.YtoigoojdbpbhoagGreatDoor
set_option maxRecDepth 20000
set_option maxHeartbeats 4000000
namespace E
open Go.Proofs.Tryz
theorem Ub{S:List Int}(hG:Good S){ps:List Pg}(hc:sA ps=0)(AQ:∀p∈ps,p.2.length=8):(∃S2,gJ ((lu S ps).take (ps.length+5)) (S,[])=(S2,[])∧C0 S ps S2)∧∀m,m<ps.length+5→∀stays:Nat→Bool,(m=ps.length+4∧stays 0=true→C0 S ps (settled stays (gJ ((lu S ps).take m) (S,[])).2 (gJ ((lu S ps).take m) (S,[])).1))∧(¬(m=ps.length+4∧stays 0=true)→Same S (settled stays (gJ ((lu S ps).take m) (S,[])).2 (gJ ((lu S ps).take m) (S,[])).1)):=by
 obtain⟨W,r,gS,hW,hr,hD,BI,qj⟩:=aev hG hc AQ;have hlen:(W.map fun p=>(some ((p.1:Int),p.2):kS)).length=ps.length+2:=by simp[gS]
 have C9:=Td W (fun p hp=>(hW p hp).1) S [];rw[List.nil_append]at C9;have hb:hasB ((r.1:Nat):Int)=true:=by have:=hr.1;simp[hasB];omega
 have h3:gJ ((lu S ps).take (ps.length+3)) (S,[])=(settled (fun _=>true) W S,[]):=by
  rw[hD,List.append_assoc,List.append_assoc,List.take_append,hlen,List.take_of_length_le (by omega),show ps.length+3-(ps.length+2)=1 by omega,gJ,List.foldl_append];rw[gJ]at C9;rw[C9];rfl
 have h4:gJ ((lu S ps).take (ps.length+4)) (S,[])=(settled (fun _=>true) W S,[r]):=by
  rw[hD,List.append_assoc,List.append_assoc,List.take_append,hlen,List.take_of_length_le (by omega),show ps.length+4-(ps.length+2)=2 by omega,gJ,List.foldl_append];rw[gJ]at C9;rw[C9];show po (po (S,W) none) (some ((r.1:Int),r.2))=_;simp[po,hb]
 have h5:gJ ((lu S ps).take (ps.length+5)) (S,[])=(mc (settled (fun _=>true) W S) r,[]):=by
  rw[List.take_of_length_le (by rw[Uj];omega)];rw[hD,List.append_assoc,List.append_assoc,gJ,List.foldl_append];rw[gJ]at C9;rw[C9];show po (po (po (S,W) none) (some ((r.1:Int),r.2))) none=_;simp only[po,hb,if_true,List.nil_append,Int.toNat_natCast];rw[Uk [_]];rfl
 refine⟨⟨_,h5,qj⟩,fun m hm stays=>?_⟩;have hsW:Same S (settled (fun _=>true) W S):=BI W _ fun p hp=>hp;rcases Nat.lt_or_ge m (ps.length+3)with h|h
 ·refine⟨fun he=>by omega,fun _=>?_⟩;have:gJ ((lu S ps).take m) (S,[])=(S,W.take m):=by
   rw[hD,List.append_assoc,List.append_assoc,List.take_append_of_le_length (by rw[hlen];omega),←List.map_take];have:=Td (W.take m) (fun p hp=>(hW p (List.mem_of_mem_take hp)).1) S []
   rwa [List.nil_append]at this
  rw[this];exact BI _ _ fun p hp=>List.mem_of_mem_take hp
 ·have:m=ps.length+3∨m=ps.length+4:=by omega
  rcases this with rfl|rfl
  ·rw[h3];exact⟨fun he=>by omega,fun _=>hsW⟩
  ·rw[h4];have es:settled stays [r] (settled (fun _=>true) W S)=if stays 0 then mc (settled (fun _=>true) W S) r else settled (fun _=>true) W S:=by
    simp[settled,ry]
   rw[es];refine⟨fun he=>by rw[if_pos he.2];exact qj,fun hn=>?_⟩;rw[if_neg fun h0=>hn ⟨rfl,h0⟩];exact hsW
def S0:List Int:=List.replicate 272 0
theorem al4:fE S0=0:=by decide+kernel
theorem al2:Good S0:=by
 refine⟨List.length_replicate,?_,?_⟩
 ·decide+kernel
 ·decide+kernel
def uX(ps:List Pg)(i:Int):Option (List Int):=((ps.filter fun p=>p.1==i).getLast?).map (·.2)
theorem afi(ps:List Pg)(p:Pg)(i:Int):uX (ps++[p]) i=if p.1=i then some p.2 else uX ps i:=by
 unfold uX;rw[List.filter_append];by_cases h:p.1=i
 ·simp[h]
 ·simp[h]
theorem C0.look{S S':List Int}{ps:List Pg}(h:C0 S ps S')(hc:sA ps=0)(i:Int):gX S' i=(uX ps i).getD (gX S i):=by
 cases hi:kQ i with
 | true=>
  have kW:0≤i∧i<14:=by simpa[kQ]using hi
  rw[h.read i hi,OV];have:zU ps i.toNat=uX ps i:=by
   unfold zU uX;rw[show((i.toNat:Nat):Int)=i by omega]
  rw[this];cases uX ps i<;>rfl
 | false=>
  have hn:uX ps i=none:=by
   unfold uX;rw[List.filter_eq_nil_iff.2 fun p hp=>?_]
   ·rfl
   ·have:=NC hc p hp;simp only[beq_iff_eq];intro e;rw[e,hi]at this;cases this
  rw[hn];simp[gX,hi]
theorem aiA(i:Int){ws:List Int}(h:ws.length=8):kE prog 329 1 [(0,Value.agg (dx (i,ws)).toArray)]=some (337,(dx (i,ws)).toArray):=by
 obtain⟨a,b,c,d,e,f,g,j,rfl⟩:=wF h
 kernel_rfl
theorem uL.form{B:Nat}{w:World}{v:Value}{ps:List Pg}(h:uL B w v ps):∃a cap,v=.slice a ps.length cap:=by
 obtain⟨a,cap,hv,_⟩:=h.ex;exact⟨a,cap,hv⟩
theorem t_{B:Nat}{w:World}{d:Nat}{S:List Int}{L:List Wr}{wv:Value}(h:fL B w d S L wv){b:Nat}{M:List Value}{e:TypeId}(hb:ak w b M e)(he:(e==258||e==320)=false):b∉dh d wv:=fun hm=>by
 rcases Ka h b hm _ _ hb with h1|h1<;>simp[h1]at he
def gK(s:Nat)(W:List Int)(D:List Bool):List Value:=Value.pointer (some ⟨s,0,none⟩)::(ints W++gF D)
structure mw(w:World)(m s:Nat)(W:List Int)(D:List Bool):Prop where
 af:ak w m (gK s W D) 283
 wl:W.length=112
 dl:D.length=14
theorem mw.keep{w w':World}{m s:Nat}{W:List Int}{D:List Bool}{fp:List Nat}(h:mw w m s W D)(hk:ae fp w w')(hn:m∉fp):mw w' m s W D:=⟨hk.af h.af hn,h.wl,h.dl⟩
def gH(W:List Int)(n:Nat):List Int:=(W.drop (n*8)).take 8
theorem Nh{W:List Int}(h:W.length=112){n:Nat}(hn:n<14):(gH W n).length=8:=by simp[gH,h];omega
section
variable{s:Nat}{W:List Int}{D:List Bool}
theorem I2(h:W.length=112)(h':D.length=14):(gK s W D).length=127:=by simp[gK,bQ,oE,h,h']
theorem aas(h:W.length=112){i:Nat}(hi:i<112):(gK s W D)[0+1+i*1]?=some (.int .i64 (W.getD i 0)):=by
 have e:0+1+i*1=i+1:=by omega
 rw[e,gK,List.getElem?_cons_succ,List.getElem?_append_left (by rw[bQ];omega)];simp[ints,List.getD_eq_getElem?_getD,h,hi]
theorem ald(h:W.length=112){i:Nat}(hi:i<112)(x:Int):b_ (gK s W D) (0+1+i*1) [.int .i64 x]=gK s (W.set i x) D:=by
 have:=A6 [Value.pointer (some ⟨s,0,none⟩)] (ints W) (gF D) [.int .i64 x] i (by rw[bQ];simp;omega);rw[T9 W i x (by omega)]at this;rw[show 0+1+i*1=[Value.pointer (some ⟨s,0,none⟩)].length+i by simp];simpa[gK]using this
theorem akh{i:Nat}{ws:List Int}(hi:i+ws.length≤W.length):b_ (gK s W D) (1+i) (ints ws)=gK s (W.take i++ws++W.drop (i+ws.length)) D:=by
 have:=A6 [Value.pointer (some ⟨s,0,none⟩)] (ints W) (gF D) (ints ws) i (by rw[bQ,bQ];omega);rw[show b_ (ints W) i (ints ws)=ints (W.take i++ws++W.drop (i+ws.length)) by simp[b_,ints,List.map_take,List.map_drop]]at this;rw[show 1+i=[Value.pointer (some ⟨s,0,none⟩)].length+i by simp];simpa[gK]using this
theorem ale(h:W.length=112)(h':D.length=14){i:Nat}(hi:i<14)(x:Bool):b_ (gK s W D) (0+113+i*1) [.bool x]=gK s W (D.set i x):=by
 have:=A6 (Value.pointer (some ⟨s,0,none⟩)::ints W) (gF D) [] [.bool x] i (by rw[oE];simp;omega);rw[M5 D i x (by omega)]at this;rw[show 0+113+i*1=(Value.pointer (some ⟨s,0,none⟩)::ints W).length+i by simp[bQ,h]];simpa[gK]using this
theorem aki(h:W.length=112){D':List Bool}(h':D'.length=D.length):b_ (gK s W D) 113 (gF D')=gK s W D':=by
 have:=A6 (Value.pointer (some ⟨s,0,none⟩)::ints W) (gF D) [] (gF D') 0 (by rw[oE,oE];omega);rw[nG (by rw[oE,oE,h'])]at this;rw[show 113=(Value.pointer (some ⟨s,0,none⟩)::ints W).length+0 by simp[bQ,h]];simpa[gK]using this
theorem alf(h:W.length=112){n:Nat}(hn:n<14):((gK s W D).drop (1+n*8)).take 8=ints (gH W n):=by
 rw[Nat.add_comm,gK,List.drop_succ_cons,List.drop_append_of_le_length (by rw[bQ];omega),List.take_append_of_le_length (by rw[List.length_drop,bQ];omega)];simp[gH,ints,List.map_take,List.map_drop]
theorem m_D(h:W.length=112)(h':D.length=14):((gK s W D).drop 113).take 14=gF D:=by
 rw[gK,List.drop_succ_cons,List.drop_append,List.drop_eq_nil_of_le (by rw[bQ];omega),bQ,h,List.nil_append,List.drop_zero,List.take_of_length_le (by rw[oE];omega)]
end
def nW(i:Int):Bool:=decide (0≤i)&&decide (i<112)
theorem WX(i:Int)(w:World):aC prog 214 [.int .i64 i] w fun v w'=>v=.bool (nW i)∧w'=w:=by
 refine aG 9 func214 ?_;refine au ?_;by_cases h0:0≤i
 ·refine ai (.bool true) (bP .i64 i 0 _ rfl (by simp[bU,h0]) w) ?_;refine au ?_;refine ai (.bool (decide (i<112))) (bP .i64 i 112 _ rfl (by simp[bU]) w) ?_;refine au ?_;refine ay func214 rfl ⟨?_,rfl⟩;simp[nW,h0]
 ·refine ai (.bool false) (bP .i64 i 0 _ rfl (by simp[bU,h0]) w) ?_;refine au ?_;refine ay func214 rfl ⟨?_,rfl⟩;simp[nW,h0]
def Eb(W:List Int)(i:Int):Int:=if nW i then W.getD i.toNat 0 else 0
def xe(W:List Int)(i x:Int):List Int:=if nW i then W.set i.toNat x else W
def Cf(W:List Int)(D:List Bool)(i x:Int):List Bool:=if nW i then(if W.getD i.toNat 0=x then D else D.set (i.toNat/8) true)else D
section
variable{w:World}{m s:Nat}{W:List Int}{D:List Bool}
theorem aix(h:mw w m s W D)(i:Int):aC prog 183 [.pointer (some ⟨m,0,none⟩),.int .i64 i] w fun v w'=>v=.int .i64 (Eb W i)∧w'=w:=by
 refine aG 14 func183 ?_;refine au ?_;refine aj (aV rfl ((WX i w).mono ?_));rintro v w1⟨rfl,rfl⟩;cases hb:nW i with
 |false=>
  refine au ?_;exact ay func183 rfl ⟨by simp[Eb,hb],rfl⟩
 |true=>
  have hi:0≤i∧i<112:=by simpa[nW]using hb
  refine au ?_;refine ai _ (nC i.toNat hT rfl rfl rfl rfl (by omega) (by omega) w1) ?_;refine ai (.int .i64 (W.getD i.toNat 0)) (aB rfl (h.af.cell (aas h.wl (by omega)))) ?_;refine au ?_;exact ay func183 rfl ⟨by simp[Eb,hb],rfl⟩
theorem akj(h:mw w m s W D)(i x:Int):aC prog 210 [.pointer (some ⟨m,0,none⟩),.int .i64 i,.int .i64 x] w fun v w'=>v=.bool (nW i)∧mw w' m s (xe W i x) (Cf W D i x)∧ae [m] w w':=by
 refine aG 30 func210 ?_;refine au ?_;refine aj (aV rfl ((WX i w).mono ?_));rintro v w1⟨rfl,rfl⟩;cases hb:nW i with
 |false=>
  refine au ?_;refine ay func210 rfl ⟨rfl,?_,ae.refl _ _⟩;simpa[xe,Cf,hb]using h
 | true=>
  have hi:0≤i∧i<112:=by simpa[nW]using hb
  have hI:i=((i.toNat:Nat):Int):=by omega
  have az:i.toNat<112:=by omega
  refine au ?_;refine ai _ (nC i.toNat hT rfl rfl rfl rfl hI (by omega) w1) ?_;refine ai (.int .i64 (W.getD i.toNat 0)) (aB rfl (h.af.cell (aas h.wl (by omega)))) ?_;refine au ?_;by_cases hx:W.getD i.toNat 0=x
  ·refine ai (.bool false) (bP .i64 _ x _ rfl (by simp only[bU,hx,bne_self_eq_false]) w1) ?_;refine au ?_;refine ay func210 rfl ⟨rfl,?_,ae.refl _ _⟩;have e:W.set i.toNat x=W:=by
    apply List.ext_getElem?;intro j;rw[List.getElem?_set];split
    ·rename_i e
     subst e;rw[if_pos (by rw[h.wl];omega),←hx,List.getD_eq_getElem?_getD,List.getElem?_eq_getElem (by rw[h.wl];omega)];rfl
    ·rfl
   simp only[xe,Cf,hb,if_true,hx,e];exact h
  ·refine ai (.bool true) (bP .i64 _ x _ rfl (by simp only[bU];rw[show(W.getD i.toNat 0 !=x)=true by simpa using hx]) w1) ?_;refine au ?_;refine ai _ (nC i.toNat hT rfl rfl rfl rfl hI (by omega) w1) ?_;refine aj (iL [.int .i64 x] rfl rfl rfl rfl (by kernel_rfl) h.af (by rw[I2 h.wl h.dl];simp;omega) (by simp;rfl) ?_);rw[ald h.wl az];have an:ae [m] w1 (w1.setRow m (gK s (W.set i.toNat x) D).toArray):=(ae.refl _ _).setRow _ _ (.inl (by simp));have h2:mw (w1.setRow m (gK s (W.set i.toNat x) D).toArray) m s (W.set i.toNat x) D:=⟨h.af.set _,by simpa using h.wl,h.dl⟩;generalize(w1.setRow m (gK s (W.set i.toNat x) D).toArray)=w2 at*;refine au ?_;refine ai (.int .i64 ((i.toNat/8:Nat):Int)) (ajk .i64 i 8 _ rfl rfl rfl (by decide) (by rw[hI];exact amB i.toNat (by omega)) w2) ?_;refine au ?_;refine ai _ (nC (i.toNat/8) hT rfl rfl rfl rfl rfl (by omega) w2) ?_;refine aj (iL [.bool true] rfl rfl rfl rfl (by kernel_rfl) h2.af (by rw[I2 h2.wl h2.dl];simp;omega) (by simp;rfl) ?_);rw[ale h2.wl h2.dl (by omega)];refine au ?_;refine ay func210 rfl ⟨rfl,?_,an.setRow _ _ (.inl (by simp))⟩;simp only[xe,Cf,hb,if_true,hx,if_false];exact⟨h2.af.set _,h2.wl,by simpa using h2.dl⟩
end
theorem agR(i:Int):prog.built 337 [(0,Value.int .i64 i)]=some (dx (i,List.replicate 8 0)).toArray:=by kernel_rfl
section
variable{w:World}{m s:Nat}{W:List Int}{D:List Bool}
theorem aiy(h:mw w m s W D){n:Nat}(hn:n<14):aC prog 282 [.pointer (some ⟨m,0,none⟩),.int .i64 (n:Nat)] w fun v w'=>v=.agg (dx ((n:Nat),gH W n)).toArray∧ae [] w w':=by
 refine aG 18 func282 ?_;refine au ?_;refine aj (nD _ rfl Jy ?_);have ah:ae [] w (w.alloc (.cells (dx (0,List.replicate 8 0)).toArray 337)):=(ae.refl _ _).alloc _;have fh:=ak.new w (dx (0,List.replicate 8 0)) 337;generalize(w.alloc (.cells (dx (0,List.replicate 8 0)).toArray 337))=w1 at*;refine au ?_;refine ai _ (bL _ rfl rfl (agR (n:Nat)) w1) ?_;refine aj (nD _ rfl Jy ?_);have an:=ah.alloc (.cells (dx (0,List.replicate 8 0)).toArray 337);have dO:=fh.alloc (.cells (dx (0,List.replicate 8 0)).toArray 337);have gT:=ak.new w1 (dx (0,List.replicate 8 0)) 337;have bS:w.heap.size≠w1.heap.size:=by have:=fh.lt;omega
 have hle:=ah.size;generalize(w1.alloc (.cells (dx (0,List.replicate 8 0)).toArray 337))=w2 at*;generalize w1.heap.size=p at*;refine aj (iL (dx ((n:Nat),List.replicate 8 0)) rfl rfl rfl rfl (by rw[qF rfl];decide+kernel) gT (by rw[qF rfl];decide) (FZ _) ?_);rw[nG (by rfl)];have aw:=an.setRow p (dx ((n:Nat),List.replicate 8 0)).toArray (.inr hle);have uK:=dO.other (dx ((n:Nat),List.replicate 8 0)).toArray bS;have yT:=gT.set (dx ((n:Nat),List.replicate 8 0));generalize(w2.setRow p (dx ((n:Nat),List.replicate 8 0)).toArray)=w3 at*;clear ah an fh dO gT;refine au ?_;refine bC (fun _=>True) [] bE ?_;refine tk 0 ?_;refine bD 1 _ rfl (fun w'=>A1 hT rfl rfl rfl w') ?_;refine tk 2 ?_;refine tk 3 ?_;refine tk 4 ?_;refine tk 5 ?_;refine bD 6 (.int .i64 ((n*8:Nat):Int)) rfl (fun w'=>bP .i64 n 8 _ rfl (by simp only[bU];rw[wrap_i64 (by omega) (by omega)];simp) w') ?_;refine bD 7 _ rfl (fun w'=>C_ (n*8) hT rfl rfl rfl rfl rfl (by omega) w') ?_;have EY:=(h.keep aw (by simp)).af;have xw:ak w3.drew m (gK s W D) 283:=EY;have oh:ak w3.drew p (dx ((n:Nat),List.replicate 8 0)) 337:=yT;have h8:=Nh h.wl hn;refine a8 8 rfl (Dq (ints (gH W n)) rfl rfl rfl (by decide+kernel) oh (by rw[bQ,h8];show 8=min (112-n*8) 8;omega) (xw.range (by rw[bQ,h8,Nat.mul_one];exact alf h.wl hn)) (by rw[bQ,h8,qF rfl];decide) (k6 _) fun r=>⟨fun _=>trivial,?_⟩);rw[show b_ (dx (((n:Nat):Int),List.replicate 8 0)) (0+1) (ints (gH W n))=dx ((n:Nat),gH W n) by
  obtain⟨a,b,c,d,e,f,g,j,hl⟩:=wF h8;rw[hl];rfl]
 refine bm ?_;have aE:=(aw.drew).setRow p (dx ((n:Nat),gH W n)).toArray (.inr hle);have jW:ak (w3.drew.setRow p (dx ((n:Nat),gH W n)).toArray) w.heap.size (dx (0,List.replicate 8 0)) 337:=ak.other (w:=w3.drew) uK _ bS;have lp:=oh.set (dx ((n:Nat),gH W n));generalize(w3.drew.setRow p (dx ((n:Nat),gH W n)).toArray)=w5 at*;have h9:(dx ((n:Nat),gH W n)).length=9:=qF h8;refine au ?_;refine ai (.agg (dx ((n:Nat),gH W n)).toArray) (h_ _ hT rfl rfl (by rw[h9];rfl) (lp.range (by simp))) ?_;refine aj (iL _ rfl rfl rfl rfl (by rw[h9];decide+kernel) jW (by rw[h9];decide) (FZ _) ?_);rw[nG (by rw[h9];rfl)];refine au ?_;exact df func282 (.inr (.inr (.inl ⟨_,_,_,rfl,rfl,wh hT (cs:=dx ((n:Nat),gH W n)) (by rw[h9];rfl) ((jW.set _).range (by simp))⟩))) ⟨rfl,aE.setRow _ _ (.inr (Nat.le_refl _))⟩
def ph(W:List Int)(D:List Bool)(j:Nat):List Pg:=((List.range j).filter fun n=>D.getD n false).map fun n=>((n:Nat),gH W n)
def gD(W:List Int)(D:List Bool):List Pg:=ph W D 14
theorem I3(W:List Int)(D:List Bool)(j:Nat):ph W D (j+1)=if D.getD j false then ph W D j++[(((j:Nat):Int),gH W j)]else ph W D j:=by
 unfold ph;have e:[j].filter (fun n=>D.getD n false)=if D.getD j false then[j]else[]:=by simp only[List.filter_cons,List.filter_nil]
 rw[List.range_succ,List.filter_append,List.map_append,e];cases D.getD j false
 ·simp only[Bool.false_eq_true,if_false,List.map_nil,List.append_nil]
 ·simp only[if_true,List.map_cons,List.map_nil]
theorem Ja(W:List Int)(D:List Bool)(j:Nat):(ph W D j).length≤j:=by
 unfold ph;rw[List.length_map];exact Nat.le_trans (List.length_filter_le _ _) (by simp)
theorem Nv{W:List Int}(h:W.length=112)(D:List Bool){j:Nat}(hj:j≤14):∀p∈ph W D j,p.2.length=8:=by
 intro p hp;obtain⟨n,hn,rfl⟩:=List.mem_map.1 hp;have:=List.mem_range.1 (List.mem_filter.1 hn).1;exact Nh h (by omega)
theorem aej(l:List Pg)(p:Pg):zG (l++[p])=zG l++dx p:=by simp[zG]
theorem aiz{w:World}{B:Nat}{v:Value}{ps:List Pg}(h:Own w B 337 9 v ps.length (zG ps))(AQ:∀p∈ps,p.2.length=8):uL w.heap.size w v ps:=by
 obtain⟨a,cap,hv⟩:=h.form;refine⟨⟨a,cap,hv,fun bS=>?_⟩,AQ,Nat.le_refl _⟩;have h0:0<ps.length:=List.length_pos_iff.2 bS;obtain⟨g,iF,tF,hr⟩:=h.range (q:=0) (cs:=zG ps) (by simp) h0;rw[hv]at tF;injection tF with e1 e2 e3;refine⟨g,0,e1,(h.lt g ?_).2,hr⟩;rw[hv,e1];rfl
theorem VJ(h:mw w m s W D):aC prog 266 [.pointer (some ⟨m,0,none⟩)] w fun v w'=>uL w'.heap.size w' v (gD W D)∧ae [] w w':=by
 refine aG 23 func266 ?_;refine au ?_;refine ai (.agg (gF D).toArray) (h_ _ hT rfl rfl (by rw[oE,h.dl];rfl) (h.af.range (by rw[oE,h.dl];exact m_D h.wl h.dl))) ?_;refine au ?_;refine cP (fun q σ w'=>∃j rv,q=14-j∧j≤14∧σ=[(0,.pointer (some ⟨m,0,none⟩)),(3,rv),(9,.agg (gF D).toArray),(10,.int .i64 (j:Nat))]∧ae [] w w'∧Own w' w.heap.size 337 9 rv (ph W D j).length (zG (ph W D j)))
  (14-0) _ ?_ ⟨0,_,rfl,by decide,rfl,ae.refl _ _,Own.nil _ _ _ _⟩ ?_
 ·exact⟨rfl,rfl,rfl,rfl,trivial⟩
 rintro q σ w1 ih⟨j,rv,hq,hj,rfl,ah,gx⟩;refine au ?_;rcases Nat.lt_or_ge j 14 with az|ij
 ·refine ai (.bool true) (bP .i64 _ _ _ rfl (by simp[bU];omega) w1) ?_;refine au ?_;refine ai (.bool (D.getD j false)) (ajl (gF D) _ j (len:=14) (by decide+kernel) rfl rfl rfl rfl az (by simp[gF,List.getD_eq_getElem?_getD,h.dl,az]) w1) ?_;cases hb:D.getD j false with
  |false=>
   refine au ?_;refine ai (.int .i64 ((j+1:Nat):Int)) (bP .i64 j 1 _ rfl (by simp only[bU];rw[wrap_i64 (by omega) (by omega)];rfl) w1) ?_;refine au ?_;refine bj ?_ (ih (14-(j+1)) _ w1 (by omega) ⟨j+1,rv,rfl,az,rfl,ah,by rw[I3,hb];exact gx⟩);exact⟨rfl,rfl,rfl,rfl,trivial⟩
  | true=>
   refine au ?_;refine aj (aV rfl ((aiy (h.keep ah (by simp)) az).mono ?_));rintro v w2⟨rfl,an⟩;have h8:=Nh h.wl az;refine aj (Da _ _ rfl rfl (aiA (j:Nat) h8) ?_);have aw:=an.alloc (.cells (dx ((j:Nat),gH W j)).toArray 337);have IE:=ak.new w2 (dx ((j:Nat),gH W j)) 337;generalize(w2.alloc (.cells (dx ((j:Nat),gH W j)).toArray 337))=w3 at*;have Ao:=gx.keep aw (by simp);have Hf:=ah.dt aw;have Z0:=Ao.lt;have CM:=Ja W D j;refine aj (ja w.heap.size 337 9 72 (zG (ph W D j)) (dx ((j:Nat),gH W j)) rfl rfl rfl (by decide+kernel) Ao (IE.range (by simp)) (by rw[qF h8]) (FZ _) (by decide) (by unfold maxLen;omega) (by omega) Hf.size ?_);intro g iF w4 bW gy;have ax:ae rv.ownBlock.toList w3 w4:=by
    rcases gy with⟨e,_,hk⟩|⟨_,hk,_⟩
    ·rw[e];exact hk
    ·exact hk.bG
   have pE:ae [] w w4:=Hf.trans ax fun k hk=>.inr (Z0 k (by simpa using hk)).1;refine au ?_;refine ai (.int .i64 ((j+1:Nat):Int)) (bP .i64 j 1 _ rfl (by simp only[bU];rw[wrap_i64 (by omega) (by omega)];rfl) w4) ?_;refine au ?_;refine bj ?_ (ih (14-(j+1)) _ w4 (by omega) ⟨j+1,.slice (some ⟨g,0,none⟩) ((ph W D j).length+1) iF,rfl,az,rfl,pE,?_⟩)
   ·exact⟨rfl,rfl,rfl,rfl,trivial⟩
   ·rw[I3,hb,if_pos rfl,aej,List.length_append];exact bW
 ·refine ai (.bool false) (bP .i64 _ _ _ rfl (by simp[bU];omega) w1) ?_;have QP:j=14:=by omega
  subst QP;refine au ?_;exact ay func266 rfl ⟨aiz gx (Nv h.wl D (by decide)),ah⟩
def vh(S:List Int)(j:Nat):List Int:=(List.range j).flatMap fun i=>gX S (i:Nat)
def mu(S:List Int):List Int:=vh S 14
theorem Ni{S:List Int}(hS:S.length=272):∀j,(vh S j).length=j*8
 |0=>rfl
 |j+1=>by
  have:=Ni hS j;unfold vh at*;rw[List.range_succ,List.flatMap_append,List.length_append,this];simp[FC hS];omega
theorem agS(S:List Int)(j:Nat):vh S (j+1)=vh S j++gX S (j:Nat):=by
 unfold vh;rw[List.range_succ,List.flatMap_append];simp
theorem agT(s:Nat):prog.built 283 [(0,Value.pointer (some ⟨s,0,none⟩))]=some (gK s (List.replicate 112 0) (List.replicate 14 false)).toArray:=by kernel_rfl
def pH(S:List Int)(j:Nat):List Int:=vh S j++List.replicate (112-j*8) 0
theorem aek{S:List Int}(hS:S.length=272){j:Nat}(hj:j≤14):(pH S j).length=112:=by
 simp[pH,Ni hS];omega
theorem agU{S:List Int}(hS:S.length=272){j:Nat}(hj:j<14):(pH S j).take (j*8)++gX S (j:Nat)++(pH S j).drop (j*8+(gX S (j:Nat)).length)=pH S (j+1):=by
 have hl:=Ni hS j;rw[FC hS];unfold pH;rw[List.take_append_of_le_length (by omega),List.take_of_length_le (by omega),List.drop_append,List.drop_eq_nil_of_le (by omega),List.nil_append,hl,List.drop_replicate,agS];congr 2;omega
theorem aio{B d:Nat}{S:List Int}{L:List Wr}{wv:Value}(hs:oL w s d)(hd:fL B w d S L wv):aC prog 174 [.pointer (some ⟨s,0,none⟩)] w fun v w'=>∃m,v=.pointer (some ⟨m,0,none⟩)∧w.heap.size≤m∧mw w' m s (mu S) (List.replicate 14 false)∧ae [] w w':=by
 refine aG 28 func174 ?_;refine au ?_;refine ai _ (bL _ rfl rfl (agT s) w) ?_;refine aj (qG _ rfl rfl rfl ?_);have ah:ae [] w (w.alloc (.cells (gK s (List.replicate 112 0) (List.replicate 14 false)).toArray 283)):=(ae.refl _ _).alloc _;have oo:mw (w.alloc (.cells (gK s (List.replicate 112 0) (List.replicate 14 false)).toArray 283)) w.heap.size s (pH S 0) (List.replicate 14 false):=⟨ak.new _ _ _,by simp[pH,vh],by simp⟩;generalize(w.alloc (.cells (gK s (List.replicate 112 0) (List.replicate 14 false)).toArray 283))=w1 at*;refine au ?_;refine cP (fun q σ w'=>∃j,q=14-j∧j≤14∧σ=[(3,.pointer (some ⟨w.heap.size,0,none⟩)),(9,.int .i64 (j:Nat))]∧ae [] w w'∧mw w' w.heap.size s (pH S j) (List.replicate 14 false))
  (14-0) _ ?_ ⟨0,rfl,by decide,rfl,ah,oo⟩ ?_
 ·exact⟨rfl,rfl,trivial⟩
 clear ah oo;rintro q σ w2 ih⟨j,hq,hj,rfl,an,yZ⟩;refine au ?_;rcases Nat.lt_or_ge j 14 with az|ij
 ·refine ai (.bool true) (bP .i64 _ _ _ rfl (by simp[bU];omega) w2) ?_;refine au ?_;refine ai (.pointer (some ⟨s,0,none⟩)) (aB rfl (yZ.af.cell rfl)) ?_;refine au ?_;refine aj (aV rfl ((agV (an.af hs (by simp)) (hd.keep an (by simp)) (j:Nat)).mono ?_));rintro v w3⟨rfl,aw⟩;have Hf:=an.dt aw;have EY:=yZ.keep aw (by simp);have h8:=FC hd.len (j:Nat);refine aj (nD _ rfl wj ?_);have ax:=Hf.alloc (.cells (ints (List.replicate 8 0)).toArray 254);have cy:=ak.new w3 (ints (List.replicate 8 0)) 254;have xw:=EY.keep ((ae.refl [] w3).alloc (.cells (ints (List.replicate 8 0)).toArray 254)) (by simp);have hle:=Hf.size;have bS:w.heap.size≠w3.heap.size:=by have:=EY.af.lt;omega
  generalize(w3.alloc (.cells (ints (List.replicate 8 0)).toArray 254))=w4 at*;generalize w3.heap.size=x at*;refine aj (iL _ rfl rfl rfl rfl (by rw[bQ,h8];decide+kernel) cy (by rw[bQ,h8];decide) (k6 _) ?_);rw[nG (by rw[bQ,h8];rfl)];have aE:=ax.setRow x (ints (gX S (j:Nat))).toArray (.inr hle);have gw:=cy.set (ints (gX S (j:Nat)));have xm:mw (w4.setRow x (ints (gX S (j:Nat))).toArray) w.heap.size s (pH S j) (List.replicate 14 false):=⟨xw.af.other _ bS,xw.wl,xw.dl⟩;generalize(w4.setRow x (ints (gX S (j:Nat))).toArray)=w5 at*;refine au ?_;refine bC (fun _=>True) [] bE ?_;refine tk 0 ?_;refine tk 1 ?_;refine tk 2 ?_;refine tk 3 ?_;refine bD 4 (.int .i64 ((j*8:Nat):Int)) rfl (fun w'=>bP .i64 j 8 _ rfl (by simp only[bU];rw[wrap_i64 (by omega) (by omega)];simp) w') ?_;refine bD 5 _ rfl (fun w'=>C_ (j*8) hT rfl rfl rfl rfl rfl (by omega) w') ?_;refine bD 6 _ rfl (fun w'=>A1 hT rfl rfl rfl w') ?_;have dM:ak w5.drew w.heap.size (gK s (pH S j) (List.replicate 14 false)) 283:=xm.af;have im:ak w5.drew x (ints (gX S (j:Nat))) 254:=gw;refine a8 7 rfl (Dq (ints (gX S (j:Nat))) rfl rfl rfl (by decide+kernel) dM (by rw[bQ,h8];show 8=min 8 (112-j*8);omega) (im.range (by simp)) (by rw[bQ,h8,I2 xm.wl xm.dl];omega) (k6 _) fun r=>⟨fun _=>trivial,?_⟩);rw[show 0+1+j*8*1=1+j*8 by omega,akh (by rw[xm.wl,h8];omega),agU hd.len az];refine bm ?_;have aN:=(aE.drew).setRow w.heap.size (gK s (pH S (j+1)) (List.replicate 14 false)).toArray (.inr (Nat.le_refl _));have L9:mw (w5.drew.setRow w.heap.size (gK s (pH S (j+1)) (List.replicate 14 false)).toArray) w.heap.size s (pH S (j+1)) (List.replicate 14 false):=⟨dM.set _,aek hd.len az,by simp⟩;generalize(w5.drew.setRow w.heap.size (gK s (pH S (j+1)) (List.replicate 14 false)).toArray)=w7 at*;refine au ?_;refine ai (.int .i64 ((j+1:Nat):Int)) (bP .i64 j 1 _ rfl (by simp only[bU];rw[wrap_i64 (by omega) (by omega)];rfl) w7) ?_;refine au ?_;refine bj ?_ (ih (14-(j+1)) _ w7 (by omega) ⟨j+1,rfl,az,rfl,aN,L9⟩);exact⟨rfl,rfl,trivial⟩
 ·refine ai (.bool false) (bP .i64 _ _ _ rfl (by simp[bU];omega) w2) ?_;have QP:j=14:=by omega
  subst QP;refine au ?_;refine ay func174 rfl ⟨_,rfl,Nat.le_refl _,?_,an⟩;have e:pH S 14=mu S:=by simp[pH,mu]
  rw[e]at yZ;exact yZ
end
theorem Yg{W:List Int}{n k:Nat}(hk:k<8):(gH W n)[k]?=W[n*8+k]?:=by
 unfold gH;rw[List.getElem?_take,if_pos hk,List.getElem?_drop]
theorem UN(W:List Int):∀j,(List.range j).flatMap (gH W)=W.take (j*8)
 |0=>by simp
 |j+1=>by
  rw[List.range_succ,List.flatMap_append,UN W j,Nat.succ_mul,List.take_add];simp[gH]
theorem agZ{W:List Int}(h:W.length=112):(List.range 14).flatMap (gH W)=W:=by
 rw[UN,List.take_of_length_le (by omega)]
theorem Yh{S W:List Int}(hW:W.length=112)(h:∀n,n<14→gX S (n:Nat)=gH W n):mu S=W:=by
 rw[←agZ hW];unfold mu vh;rw[List.flatMap_def,List.flatMap_def];congr 1;exact List.map_congr_left fun x hx=>h x (List.mem_range.1 hx)
theorem ag0{S:List Int}(hS:S.length=272){n:Nat}(hn:n<14):gH (mu S) n=gX S (n:Nat):=by
 unfold gH mu vh;have:∀(l:List Nat) (j:Nat) (p:Nat),l[j]?=some p→((l.flatMap fun i=>gX S (i:Nat)).drop (j*8)).take 8=gX S (p:Nat):=by
  intro l;induction l with
  |nil=>intro j p h;simp at h
  | cons a r ih=>
   intro j p h;cases j with
   |zero=>
    simp at h;subst h;have:=FC hS (a:Nat);rw[List.flatMap_cons,Nat.zero_mul,List.drop_zero,List.take_append_of_le_length (by omega),List.take_of_length_le (by omega)]
   |succ j=>
    simp only[List.getElem?_cons_succ]at h;have h8:=FC hS (a:Nat);rw[List.flatMap_cons,Nat.succ_mul,Nat.add_comm,←List.drop_drop,←h8,List.drop_left,h8];exact ih j p h
 exact this _ n n (by rw[List.getElem?_range hn])
def Ac(S W:List Int)(D:List Bool):Prop:=∀n,n<14→D.getD n false=false→gX S (n:Nat)=gH W n
theorem Tm(W:List Int)(D:List Bool):∀(j n:Nat),uX (ph W D j) (n:Nat)=if n<j∧D.getD n false=true then some (gH W n)else none
 |0,n=>by simp[ph,uX]
 | j+1,n=>by
  rw[I3];have ih:=Tm W D j n;cases hb:D.getD j false with
  | false=>
   rw[if_neg (by simp),ih];by_cases e:n=j
   ·subst e;rw[if_neg (by omega),if_neg (by rw[hb];simp)]
   ·have:(n<j+1∧D.getD n false=true)↔(n<j∧D.getD n false=true):=by constructor<;>(rintro⟨h1,h2⟩;exact⟨by omega,h2⟩)
    simp only[this]
  | true=>
   rw[if_pos rfl,afi];by_cases e:n=j
   ·subst e;rw[if_pos rfl,if_pos ⟨by omega,hb⟩]
   ·rw[if_neg (by simp only;omega),ih];have:(n<j+1∧D.getD n false=true)↔(n<j∧D.getD n false=true):=by constructor<;>(rintro⟨h1,h2⟩;exact⟨by omega,h2⟩)
    simp only[this]
theorem TH:∀(ps:List Pg) (done:List Int) (p:Pg),rP done ps=0→kQ p.1=true→(done++ps.map (·.1)).contains p.1=false→rP done (ps++[p])=0
 |[],done,p,_,h2,h3=>by
  simp only[List.map_nil,List.append_nil]at h3;simp only[List.nil_append,rP];rw[if_neg (by simp[h2]),if_neg (by rw[h3];simp)]
 | q::r,done,p,h1,h2,h3=>by
  unfold rP at h1;simp only[List.cons_append];unfold rP;split at h1
  ·cases h1
  ·rename_i hq
   split at h1
   ·cases h1
   ·rename_i hc
    rw[if_neg hq,if_neg hc];exact TH r _ p h1 h2 (by simpa[List.append_assoc]using h3)
theorem Ua(W:List Int)(D:List Bool):∀j,j≤14→sA (ph W D j)=0
 |0,_=>by simp[ph,sA,rP]
 | j+1,h=>by
  rw[I3];have ih:=Ua W D j (by omega);split
  ·refine TH _ [] _ ih (by simp[kQ];omega) ?_;cases hc:(([]:List Int)++(ph W D j).map (fun p:Pg=>p.1)).contains ((j:Nat):Int)with
   |false=>rfl
   |true=>
    rw[List.contains_iff_mem]at hc;simp only[List.nil_append,List.mem_map]at hc;obtain⟨p,hp,e⟩:=hc;obtain⟨n,hn,rfl⟩:=List.mem_map.1 hp;have:=List.mem_range.1 (List.mem_filter.1 hn).1;omega
  ·exact ih
theorem Jz(W:List Int)(D:List Bool):sA (gD W D)=0:=Ua W D 14 (by decide)
theorem C0.all{S S2 W:List Int}{D:List Bool}(h:C0 S (gD W D) S2)(ht:Ac S W D):∀n,n<14→gX S2 (n:Nat)=gH W n:=fun n hn=>by
 rw[h.look (Jz W D),gD,Tm];cases hb:D.getD n false with
 |true=>rw[if_pos ⟨hn,rfl⟩];rfl
 |false=>rw[if_neg (by simp)];exact ht n hn hb
theorem aiC{W:List Int}{i n:Nat}(x:Int)(bS:i/8≠n):gH (W.set i x) n=gH W n:=by
 apply List.ext_getElem?;intro k;by_cases hk:k<8
 ·rw[Yg hk,Yg hk,List.getElem?_set_ne (by omega)]
 ·rw[List.getElem?_eq_none (by simp[gH];omega),List.getElem?_eq_none (by simp[gH];omega)]
theorem aiD{W:List Int}{i:Nat}{x:Int}(h:i<W.length)(hx:W.getD i 0=x):W.set i x=W:=by
 apply List.ext_getElem?;intro j;rw[List.getElem?_set];split
 ·rename_i e
  subst e;rw[←hx,List.getD_eq_getElem?_getD,List.getElem?_eq_getElem h];rfl
 ·rfl
theorem Ac.put{S W:List Int}{D:List Bool}(h:Ac S W D)(hW:W.length=112)(hD:D.length=14)(i x:Int):Ac S (xe W i x) (Cf W D i x):=by
 intro n hn hd;unfold xe;unfold Cf at hd;cases hb:nW i with
 |false=>
  rw[hb]at hd;simp only[Bool.false_eq_true,if_false]at hd⊢;exact h n hn hd
 | true=>
  have hi:0≤i∧i<112:=by simpa[nW]using hb
  rw[hb]at hd;simp only[if_true]at hd⊢;by_cases hx:W.getD i.toNat 0=x
  ·rw[if_pos hx]at hd;rw[aiD (by omega) hx];exact h n hn hd
  ·rw[if_neg hx,List.getD_eq_getElem?_getD,List.getElem?_set]at hd;by_cases e:i.toNat/8=n
   ·rw[if_pos e,if_pos (by omega)]at hd;cases hd
   ·rw[if_neg e]at hd;rw[aiC x e];exact h n hn (by rw[List.getD_eq_getElem?_getD];exact hd)
theorem tied_new{S:List Int}(hS:S.length=272):Ac S (mu S) (List.replicate 14 false):=fun _ hn _=>(ag0 hS hn).symm
theorem aiE{S W:List Int}(D:List Bool)(h:∀n,n<14→gX S (n:Nat)=gH W n):Ac S W D:=fun n hn _=>h n hn
theorem ady:prog.built 281 []=some (gF (List.replicate 14 false)).toArray:=by kernel_rfl
def yt(ps:List Pg)(may:Int):Bool:=decide (may<0∨may≥(ps.length+5:Nat))
def BA(ps:List Pg)(may:Int):Nat:=if may<0∨may≥(ps.length+5:Nat)then ps.length+5 else may.toNat
section
variable{B:Nat}{w:World}{m s d:Nat}{W:List Int}{D:List Bool}{S:List Int}{wv:Value}
theorem WY(h:mw w m s W D)(hs:oL w s d)(hd:fL B w d S [] wv)(Am:fE S<1000000)(may:Int):aC prog 246 [.pointer (some ⟨m,0,none⟩),.int .i64 may] w fun v w'=>v=.bool (yt (gD W D) may)∧mw w' m s W (if yt (gD W D) may then List.replicate 14 false else D)∧oL w' s d∧ae (m::dh d wv) w w'∧∃lJ,fL B w' d (gJ ((lu S (gD W D)).take (BA (gD W D) may)) (S,[])).1 (gJ ((lu S (gD W D)).take (BA (gD W D) may)) (S,[])).2 lJ∧∀k∈dh d lJ,k∈dh d wv∨w.heap.size≤k:=by
 refine aG 24 func246 ?_;have hps:=Jz W D;have hlen:(gD W D).length≤14:=Ja W D 14;refine au ?_;have gI:ak w.drew m (gK s W D) 283:=h.af;refine bC (fun w'=>ak w' m (gK s W D) 283) [] bE ?_;refine tk 0 ?_;refine tk 1 ?_;refine tk 2 ?_;refine aI 3 (.pointer (some ⟨s,0,none⟩)) rfl (fun w' hk=>aB rfl (hk.cell rfl)) gI ?_;refine tk 4 ?_;refine tk 6 ?_;have bX:ae [] w w.drew:=(ae.refl _ _).drew;refine a8 5 rfl (aV rfl ((VJ (h.keep bX (by simp))).mono ?_));rintro v w1⟨l8,ah⟩;have Hg:=bX.dt ah;have h1:=h.keep Hg (by simp);have bt:oL w1 s d:=Hg.af hs (by simp);have js:=hd.keep Hg (by simp);refine⟨fun _=>h1.af,?_⟩;have oo:m∉dh d wv:=t_ js h1.af (by decide);have vH:s∉dh d wv:=t_ js bt (by decide);refine a8 7 rfl (aV rfl ((afh bt js l8 (by omega) (by decide) (T_ S) Am may hps (BA (gD W D) may) rfl).mono ?_));rintro v w2⟨rfl,MK,lk,an,mF⟩;have qV:ae (dh d wv) w w2:=(Hg.bG).tr an;have h2:=h1.keep an oo;have cE:oL w2 s d:=an.af bt vH;refine⟨fun _=>h2.af,?_⟩;have zW:∀k∈dh d MK,k∈dh d wv∨w.heap.size≤k:=fun k hk=>(mF k hk).imp id fun h1=>Nat.le_trans Hg.size h1;refine tk 8 ?_;refine tk 9 ?_;refine tk 10 ?_;refine tk 11 ?_;refine tk 12 ?_;refine bm ?_;change Rn _ _ _ _ _ _ _;rw[show decide (may<0∨may≥((gD W D).length+5:Nat))=yt (gD W D) may from rfl];cases hb:yt (gD W D) may with
 |false=>
  refine au ?_;exact ay func246 rfl ⟨rfl,h2,cE,qV.mono fun k hk=>.inl (by simp[hk]),MK,lk,zW⟩
 |true=>
  refine au ?_;refine ai _ (bL _ rfl rfl ady w2) ?_;refine au ?_;refine aj (iL (gF (List.replicate 14 false)) rfl rfl rfl rfl (by kernel_rfl) h2.af (by rw[I2 h2.wl h2.dl];decide) (agW _) ?_);rw[show 0+113=113 from rfl,aki h2.wl (by rw[h2.dl];rfl)];have aw:ae [m] w2 (w2.setRow m (gK s W (List.replicate 14 false)).toArray):=(ae.refl _ _).setRow _ _ (.inl (by simp));have yZ:m∉dh d MK:=t_ lk h2.af (by decide);refine au ?_;refine ay func246 rfl ⟨rfl,⟨h2.af.set _,h2.wl,by simp⟩,aw.af cE (by simp;exact ak.ne cE h2.af (by decide)),?_,MK,lk.keep aw fun k hk hm=>yZ (by simp at hm;rw[←hm];exact hk),zW⟩;exact(qV.mono fun k hk=>.inl (by simp[hk])).trans aw fun k hk=>.inl (by simp at hk;simp[hk])
end
structure St(B:Nat)(w:World)(d s m:Nat)(S W:List Int)(D:List Bool)(wv:Value):Prop where
 mem:mw w m s W D
 vT:oL w s d
 nu:fL B w d S [] wv
 tj:Good S
 tied:Ac S W D
 hm:B≤m
section
variable{B:Nat}{w w':World}{d s m:Nat}{S W:List Int}{D:List Bool}{wv:Value}
theorem St.aA(h:St B w d s m S W D wv)(hk:ae [] w w'):St B w' d s m S W D wv:=⟨h.mem.keep hk (by simp),hk.af h.vT (by simp),h.nu.keep hk (by simp),h.tj,h.tied,h.hm⟩
theorem St.nm(h:St B w d s m S W D wv):m∉dh d wv:=t_ h.nu h.mem.af (by decide)
theorem aiB(h:St B w d s m S W D wv)(i x:Int):aC prog 210 [.pointer (some ⟨m,0,none⟩),.int .i64 i,.int .i64 x] w fun v w'=>v=.bool (nW i)∧St B w' d s m S (xe W i x) (Cf W D i x) wv∧ae [m] w w':=by
 refine(akj h.mem i x).mono ?_;rintro v w1⟨rfl,h1,ah⟩;refine⟨rfl,⟨h1,ah.af h.vT (by simp;exact ak.ne h.vT h.mem.af (by decide)),h.nu.keep ah fun k hk hm=>h.nm (by simp at hm;rw[←hm];exact hk),h.tj,h.tied.put h.mem.wl h.mem.dl i x,h.hm⟩,ah⟩
end
theorem agY(ps:List Pg):yt ps (-1)=true:=by simp[yt]
theorem al3:mu S0=List.replicate 112 0:=by decide+kernel
theorem aip{B:Nat}{w w':World}{d s m:Nat}{S:List Int}{wv:Value}(hm:mw w' m s (mu S) (List.replicate 14 false))(hs:oL w s d)(hd:fL B w d S [] wv)(hG:Good S)(hk:ae [] w w')(hB:B≤m):St B w' d s m S (mu S) (List.replicate 14 false) wv:=
 ⟨hm,hk.af hs (by simp),hd.keep hk (by simp),hG,tied_new hG.len,hB⟩
abbrev zd:Nat:=206
structure Enc(W:List Int)(m:Md):Prop where
 next:W[0]?=some (m.next:Int)
 many:W[1]?=some (m.stack.length:Int)
 read:W[2]?=some (m.read:Int)
 out:W[3]?=some (m.out:Int)
 state:W[4]?=some (m.state:Int)
 cells:∀i x,m.cells[i]?=some x→W[5+i]?=some x
 stack:∀i x,m.stack[i]?=some x→W[53+i]?=some x
theorem aoa(c:Nat)(hc:c≤48):Enc (List.replicate 112 0) (gL c)where
 next:=rfl
 many:=rfl
 read:=rfl
 out:=rfl
 state:=rfl
 cells:=fun i x h=>by
  have hi:=(List.getElem?_eq_some_iff.1 h).1;simp only[gL,List.length_replicate]at hi;simp only[gL,List.getElem?_replicate,hi,if_true,Option.some.injEq]at h;subst h;rw[List.getElem?_replicate,if_pos (by omega)]
 stack:=fun i x h=>by simp[gL]at h
def uG(d s m:Nat)(wv:Value):List Nat:=m::s::dh d wv
def te(p:Pr)(k n:Int):Pr:=if k=(p.1.length:Int)then(p.1++[n],p.2)else if 0≤k∧p.1[k.toNat]?=some n then p else(p.1,true)
theorem ait(p:Pr)(k:Nat)(n:Int):te p (k:Nat) n=ko p k n:=by
 unfold te ko;by_cases h:k=p.1.length
 ·rw[if_pos (by omega),if_pos h]
 ·rw[if_neg (by omega),if_neg h];simp
structure Mx where
 L:List Is
 inp:List Int
 m:Nat
 q:Nat
 md:Md
 pr:Pr
 left:Int
 torn:Bool
 gen:Int
def Mx.go(M:Mx)(g:Int):Mx:={M with md:=(eD M.L M.inp M.md M.pr).1,pr:=(eD M.L M.inp M.md M.pr).2,gen:=g}
structure Wo(c:Nat)(Q:List Is)(M:Mx)(i:Nat):Prop where
 Fg:HO c Q
 MG:c≤48
 code:M.L=Q++[bA]
 fit:Fit c Q M.md M.pr
 inp:M.inp.length≤1000
 out:M.pr.1.length≤i
 read:M.md.read≤i
 aao:0≤M.gen
 gen:M.gen≤i
 state:M.md.state≤14
def Bnd(m:Md)(p:Pr)(r:Md×Pr):Prop:=r.2.1.length≤p.1.length+1∧r.1.read≤m.read+1∧r.1.state≤14∧r.1.cells.length=m.cells.length
theorem akf(inp:List Int)(x:Is)(m:Md)(p:Pr)(hs:m.state≤14):Bnd m p (bu inp x m p):=by
 have hp:(ko p m.out (aR m.stack)).1.length≤p.1.length+1:=by
  unfold ko;split
  ·simp
  ·split<;>simp
 unfold bu;by_cases e1:x.1=1
 ·rw[if_pos e1];exact⟨Nat.le_succ _,Nat.le_succ _,hs,rfl⟩
 rw[if_neg e1];by_cases e2:x.1=2
 ·rw[if_pos e2];exact⟨Nat.le_succ _,Nat.le_succ _,hs,rfl⟩
 rw[if_neg e2];by_cases e3:x.1=3
 ·rw[if_pos e3];split
  ·exact⟨Nat.le_succ _,Nat.le_succ _,hs,rfl⟩
  ·exact⟨Nat.le_succ _,Nat.le_succ _,(by decide:(13:Nat)≤14),rfl⟩
 rw[if_neg e3];by_cases e4:4≤x.1∧x.1≤8
 ·rw[if_pos e4];exact⟨Nat.le_succ _,Nat.le_succ _,hs,rfl⟩
 rw[if_neg e4];by_cases e9:x.1=9
 ·rw[if_pos e9];exact⟨Nat.le_succ _,Nat.le_succ _,hs,List.length_set⟩
 rw[if_neg e9];by_cases vw:x.1=10
 ·rw[if_pos vw];split
  ·exact⟨Nat.le_succ _,Nat.le_succ _,hs,List.length_set⟩
  ·exact⟨Nat.le_succ _,Nat.le_succ _,(by decide:(13:Nat)≤14),rfl⟩
 rw[if_neg vw];by_cases HL:x.1=11
 ·rw[if_pos HL];exact⟨hp,Nat.le_succ _,hs,rfl⟩
 rw[if_neg HL];by_cases HM:x.1=12
 ·rw[if_pos HM];split
  ·exact⟨Nat.le_succ _,Nat.le_refl _,hs,List.length_set⟩
  ·exact⟨Nat.le_succ _,Nat.le_succ _,(by decide:(14:Nat)≤14),rfl⟩
 rw[if_neg HM];by_cases Cv:x.1=13
 ·rw[if_pos Cv];exact⟨Nat.le_succ _,Nat.le_succ _,hs,rfl⟩
 rw[if_neg Cv];by_cases Cy:x.1=14
 ·rw[if_pos Cy];exact⟨Nat.le_succ _,Nat.le_succ _,hs,rfl⟩
 rw[if_neg Cy];by_cases e16:x.1=16
 ·rw[if_pos e16];exact⟨Nat.le_succ _,Nat.le_succ _,(by decide:(1:Nat)≤14),rfl⟩
 rw[if_neg e16];exact⟨Nat.le_succ _,Nat.le_succ _,hs,rfl⟩
theorem akg(W:List Is)(inp:List Int)(m:Md)(p:Pr)(hs:m.state≤14):(eD W inp m p).2.1.length≤p.1.length+1∧(eD W inp m p).1.read≤m.read+1∧(eD W inp m p).1.state≤14∧(eD W inp m p).1.cells.length=m.cells.length:=by
 unfold eD;split
 ·exact akf inp _ m p hs
 ·exact⟨Nat.le_succ _,Nat.le_succ _,hs,rfl⟩
def Su(R:Nat→Prop)(w:World)(v:Value)(l:List Int):Prop:=∃a cap,v=.slice a l.length cap∧(0<l.length→∃b q,a=some ⟨b,q,none⟩∧R b∧w.rangeAt b q (dZ l))
theorem bl.low{w:World}{B B':Nat}{v:Value}{l:List Int}(h:bl w B v l)(hB:B'≤B):bl w B' v l:=by
 refine⟨h.1,?_⟩;rcases h.2 with h0|⟨g,cap,cur,h1,h2,r⟩
 ·exact .inl h0
 ·exact .inr ⟨g,cap,cur,h1,Nat.le_trans hB h2,r⟩
section
variable{P:Program}{T:fV}{n:Nat}{σ:Env}{o:Oper}
theorem agO{t t':TypeId}{x:Operand}{len cap sz:Nat}(hT:T.check P=true)(ho:o.op=.binOp .eql t x (.const (.slice none 0 0)) t')(hx:ev σ x=some (.slice none len cap))(ht:find T.sl t=some sz)(w:World):cS P n σ o w (.bool true):=by
 intro a ha;have hs:=fV.D0 hT ht;unfold zX at hs;split at hs
 ·rename_i e hu
  have he:∀d,(Op.equalIn (d+1) t (.slice none len cap) (.slice none 0 0)).run P w=.ok true w:=fun d=>by
   simp[Op.equalIn,run_underlying hu]
  have tA:(Op.equal t (.slice none len cap) (.slice none 0 0)).run P w=.ok true w:=he 9999;have hc:a.eval (.const (.slice none 0 0))=.slice none 0 0:=rfl;simp[execOp,ho,ha.eval hx,hc,eqGuard,binOp,tA]
 ·cases hs
theorem aiu{t:TypeId}{x y:Operand}{kk:IntKind}{a b:Int}(r:Int)(ho:o.op=.call {callee:=.builtin .min,args:=#[x,y],argTypes:=#[t,t]})(hx:ev σ x=some (.int kk a))(hy:ev σ y=some (.int kk b))(hr:(if b<a then b else a)=r)(w:World):cS P n σ o w (.int kk r):=by
 intro ac ha;simp[execOp,ho,resolve,invoke,builtin,ha.eval hx,ha.eval hy,Builtin.min_,Builtin.min2,hr]
theorem aiv{t:TypeId}{x y:Operand}{kk:IntKind}{a b:Int}(r:Int)(ho:o.op=.call {callee:=.builtin .max,args:=#[x,y],argTypes:=#[t,t]})(hx:ev σ x=some (.int kk a))(hy:ev σ y=some (.int kk b))(hr:(if b>a then b else a)=r)(w:World):cS P n σ o w (.int kk r):=by
 intro ac ha;simp only[gt_iff_lt]at hr;simp[execOp,ho,resolve,invoke,builtin,ha.eval hx,ha.eval hy,Builtin.max_,Builtin.max2,hr]
end
theorem Nu{w:World}{v:Value}{l:List Int}(h:eS w v l)(hl:l.length≤1000000):aC prog 134 [v] w fun r w'=>bl w' w.heap.size r l∧ae [] w w':=by
 obtain⟨a,cap,rfl,h2⟩:=h;refine aG 8 func134 ?_;cases a with
 | none=>
  have h0:l=[]:=List.eq_nil_of_length_eq_zero (by
   rcases Nat.eq_zero_or_pos l.length with h|h
   ·exact h
   ·obtain⟨_,_,e,_⟩:=h2 h;cases e)
  subst h0;refine au ?_;refine ai (.bool true) (agO hT rfl rfl rfl w) ?_;refine au ?_;exact ay func134 rfl ⟨bl.nil _ _,ae.refl _ _⟩
 | some ad=>
  refine au ?_;refine ai (.bool false) (Us hT rfl rfl rfl w) ?_;refine au ?_;refine aj (eE dA [] rfl rfl (by kernel_rfl) ?_);intro w1 g hg bt ah aM;have bW:Own w1 w.heap.size dA 1 (.slice (some ⟨g,0,none⟩) 0 0) 0 []:=⟨rfl,.inr ⟨g,0,[],rfl,by omega,aM,Nat.le_refl _,by simp,rfl⟩⟩;refine au ?_;by_cases h0:0<l.length
  ·obtain⟨b,q,e,hb,hr⟩:=h2 h0;cases e;refine aj (ja w.heap.size dA 1 8 [] (dZ l) rfl rfl rfl yj bW (ft hr ah hb (by simp)) (by rw[Di];omega) (XE l) h0 (by unfold maxLen;omega) (by omega) ah.size ?_);intro g2 c2 w2 D2 mQ;rw[Nat.zero_add,List.nil_append]at D2;rw[Nat.zero_add];refine au ?_;refine ay func134 rfl ⟨D2,?_⟩;rcases mQ with⟨h3,_,h5⟩|⟨_,h4,_⟩
   ·refine ah.trans h5 fun k hk=>.inr ?_;have h3:some g=some g2:=h3;injection h3 with h3;rw[List.mem_singleton.1 hk];omega
   ·exact ah.tr h4
  ·have h0:l=[]:=List.eq_nil_of_length_eq_zero (by omega);subst h0;refine aj (NK (ln:=0) rfl rfl rfl yj bW ?_);refine au ?_;exact ay func134 rfl ⟨bW,ah⟩
def Fi(v:Value)(p:Pr):List Value:=[v,.int .i64 (if p.2 then 15 else 0)]
def CX:List Value:=[.slice none 0 0,.int .i64 0]
theorem Lx:zd≠dA:=by decide
structure Pv(R:Nat→Prop)(B:Nat)(w:World)(q:Nat)(v:Value)(p:Pr):Prop where
 af:ak w q (Fi v p) zd
 row:bl w B v p.1
 ge:B≤q
 ro:∀k,R k→k<w.heap.size
 nr:∀k∈q::aW v,¬R k
def CZ(R:Nat→Prop)(B:Nat)(w:World)(q:Nat)(fq:List Nat)(p:Pr):Prop:=∃v,fq=q::aW v∧Pv R B w q v p
section
variable{R:Nat→Prop}{B:Nat}{w w':World}{q:Nat}{fq kB:List Nat}{p:Pr}{v:Value}
theorem Pv.lt(h:Pv R B w q v p):∀k∈q::aW v,B≤k∧k<w.heap.size∧¬R k:=fun k hk=>by
 refine⟨?_,?_,h.nr k hk⟩
 ·rcases List.mem_cons.1 hk with rfl|hk
  ·exact h.ge
  ·exact(h.row.lt k hk).1
 ·rcases List.mem_cons.1 hk with rfl|hk
  ·exact h.af.lt
  ·exact(h.row.lt k hk).2
theorem Pv.keep(h:Pv R B w q v p)(hk:ae kB w w')(hn:∀k∈kB,k∉q::aW v):Pv R B w' q v p:=
 ⟨hk.af h.af fun hm=>hn q hm (by simp),h.row.keep hk fun k hk hm=>hn k hm (by simp[hk]),h.ge,fun k hR=>Nat.lt_of_lt_of_le (h.ro k hR) hk.size,h.nr⟩
theorem Pv.aA(h:Pv R B w q v p)(hk:ae [] w w'):Pv R B w' q v p:=h.keep hk fun k hk=>by cases hk
theorem aiw(h:CZ R B w q fq p)(hl:p.1.length≤400000)(k n:Int):aC prog 264 [.pointer (some ⟨q,0,none⟩),.int .i64 k,.int .i64 n] w fun r w'=>r=.tuple #[]∧∃Fj,CZ R B w' q Fj (te p k n)∧ae fq w w'∧∀k∈Fj,k∈fq∨w.heap.size≤k:=by
 obtain⟨v,rfl,h⟩:=h;obtain⟨a,cap,rfl⟩:=h.row.form;refine aG 48 func264 ?_;refine lB h.af ?_;refine au ?_;by_cases he:k=(p.1.length:Nat)
 ·refine ye ?_;refine lB h.af ?_;refine au ?_;refine aj (eE dA [.int .i64 n] rfl rfl (F3 n) ?_);intro w1 g hg bt ah aM;have h1:=h.aA ah;have uD:B≤w1.heap.size:=Nat.le_trans h1.ge (Nat.le_of_lt h1.af.lt);refine aj (ja B dA 1 8 (dZ p.1) [.int .i64 n] rfl rfl rfl yj h1.row (aM.range rfl) rfl (nL rfl) (by decide) (by unfold maxLen;omega) (by omega) uD ?_);intro g2 G8 w2 D2 mQ;have KD:bl w2 B (.slice (some ⟨g2,0,none⟩) (p.1.length+1) G8) (p.1++[n]):=by
   have e1:(p.1++[n]).length=p.1.length+1:=by simp
   have e2:dZ (p.1++[n])=dZ p.1++[.int .i64 n]:=by rw[Ge];rfl
   unfold bl;rw[e1,e2];exact D2
  have an:ae (aW (.slice a p.1.length cap)) w1 w2:=by
   rcases mQ with⟨h3,_,h4⟩|⟨_,h4,_⟩
   ·rw[aW,h3];exact h4
   ·exact h4.bG
  have fW:∀x∈aW (.slice (some ⟨g2,0,none⟩) (p.1.length+1) G8),x∈aW (.slice a p.1.length cap)∨w.heap.size≤x:=fun x hx=>by
   have hx:x=g2:=by simpa[aW,Value.ownBlock]using hx
   subst hx;rcases mQ with⟨h3,_,_⟩|⟨h3,_,_⟩
   ·exact .inl (iM.2 h3)
   ·exact .inr (by omega)
  have aar:=an.af h1.af fun hm=>h1.row.ne h1.af Lx q hm (by simp);refine au ?_;refine aj (aH [.slice (some ⟨g2,0,none⟩) (p.1.length+1) G8] rfl Bj aar (by simp[Fi]) (nL rfl) ?_);intro w3 cw aw aQ;refine au ?_;refine bK func264 rfl ⟨rfl,q::aW (.slice (some ⟨g2,0,none⟩) (p.1.length+1) G8),⟨_,rfl,?_,?_,h.ge,?_,?_⟩,?_,?_⟩
  ·unfold te;rw[if_pos he];exact aQ
  ·unfold te;rw[if_pos he];exact KD.keep aw (KD.ne aar Lx)
  ·intro k hR;have:=h.ro k hR;have:=ah.size;have:=an.size;omega
  ·intro x hx hR;rcases List.mem_cons.1 hx with rfl|hx
   ·exact h.nr _ (by simp) hR
   ·rcases fW x hx with h4|h4
    ·exact h.nr _ (by simp[h4]) hR
    ·have:=h.ro x hR;omega
  ·refine(ah.bG.trans an fun x hx=>.inl (by simp[hx])).trans aw fun x hx=>.inl ?_;rw[List.mem_singleton.1 hx];simp
  ·intro x hx;rcases List.mem_cons.1 hx with rfl|hx
   ·exact .inl (by simp)
   ·rcases fW x hx with h4|h4
    ·exact .inl (by simp[h4])
    ·exact .inr h4
 ·refine aL ?_;have bad:∀{w3:World},¬(0≤k∧p.1[k.toNat]?=some n)→w3.heap.size=w.heap.size→ae [q] w w3→ak w3 q (b_ (Fi (.slice a p.1.length cap) p) 1 [.int .i64 15]) zd→∃Fj,CZ R B w3 q Fj (te p k n)∧ae (q::aW (.slice a p.1.length cap)) w w3∧∀x∈Fj,x∈q::aW (.slice a p.1.length cap)∨w.heap.size≤x:=fun{w3} hc cw aw aQ=>by
   refine⟨_,⟨.slice a p.1.length cap,rfl,?_,?_,h.ge,?_,h.nr⟩,?_,fun x hx=>.inl hx⟩
   ·unfold te;rw[if_neg he,if_neg hc];exact aQ
   ·unfold te;rw[if_neg he,if_neg hc];exact h.row.keep aw (h.row.ne h.af Lx)
   ·intro x hR;rw[cw];exact h.ro x hR
   ·exact aw.mono fun x hx=>.inl (by rw[List.mem_singleton.1 hx];simp)
  refine au ?_;by_cases h0:k<0
  ·refine ye ?_;refine au ?_;refine aj (aH [.int .i64 15] rfl gC h.af (by simp[Fi]) (eK _) ?_);intro w3 cw aw aQ;refine au ?_;exact bK func264 rfl ⟨rfl,bad (fun hc=>by omega) cw aw aQ⟩
  ·refine aL ?_;refine au ?_;by_cases h1:k>(p.1.length:Nat)
   ·refine ye ?_;refine au ?_;refine aj (aH [.int .i64 15] rfl gC h.af (by simp[Fi]) (eK _) ?_);intro w3 cw aw aQ;refine au ?_;exact bK func264 rfl ⟨rfl,bad (fun hc=>by have:=(List.getElem?_eq_some_iff.1 hc.2).1;omega) cw aw aQ⟩
   ·refine aL ?_;refine lB h.af ?_;obtain⟨j,rfl⟩:∃j:Nat,k=(j:Nat):=⟨k.toNat,by omega⟩;have hj:j<p.1.length:=by omega
    obtain⟨x,RA⟩:∃x,x=p.1[j]:=⟨_,rfl⟩;have hx:p.1[j]?=some x:=by rw[List.getElem?_eq_getElem hj,RA]
    obtain⟨g,iF,hv,hc⟩:=h.row.at hx;cases hv;refine au ?_;refine ai _ (bJ j rfl hj w) ?_;refine ai _ (aB rfl ((by rw[Nat.zero_add,Nat.mul_one];exact hc))) ?_;refine au ?_;by_cases uJ:x=n
    ·refine aL ?_;refine au ?_;refine bK func264 rfl ⟨rfl,_,⟨_,rfl,?_⟩,ae.refl _ _,fun x hx=>.inl hx⟩;unfold te;rw[if_neg he,if_pos ⟨by omega,by rw[Int.toNat_natCast,hx,uJ]⟩];exact h
    ·refine ye ?_;refine au ?_;refine aj (aH [.int .i64 15] rfl gC h.af (by simp[Fi]) (eK _) ?_);intro w3 cw aw aQ;refine au ?_;exact bK func264 rfl ⟨rfl,bad (fun hc=>by rw[Int.toNat_natCast,hx]at hc;exact uJ (Option.some.inj hc.2)) cw aw aQ⟩
theorem agP(h:CZ R B w q fq p)(hl:p.1.length≤400000):aC prog 143 [.pointer (some ⟨q,0,none⟩)] w fun r w'=>bl w' w.heap.size r p.1∧ae [] w w':=by
 obtain⟨v,rfl,h⟩:=h;obtain⟨a,cap,rfl⟩:=h.row.form;refine aG 8 func143 ?_;refine lB h.af ?_;refine oC (Nu h.row.nQ (by omega)) ?_;rintro r w1⟨hr,hk⟩;refine au ?_;exact ay func143 rfl ⟨hr,hk⟩
theorem agQ(h:CZ R B w q fq p):aC prog 184 [.pointer (some ⟨q,0,none⟩)] w fun r w'=>r=.int .i64 (if p.2 then 15 else 0)∧w'=w:=by
 obtain⟨v,rfl,h⟩:=h;refine aG 7 func184 ?_;refine lB h.af ?_;refine au ?_;exact ay func184 rfl ⟨rfl,rfl⟩
end
abbrev zg:Nat:=215
theorem aat:zg≠dA:=by decide
theorem aau:zg≠zd:=by decide
def uM(m:Nat)(cv iv:Value)(q:Nat)(left:Int)(torn:Bool):List Value:=[.pointer (some ⟨m,0,none⟩),cv,iv,.pointer (some ⟨q,0,none⟩),.int .i64 left,.bool torn]
structure Mo where
 L:List Is
 inp:List Int
 m:Nat
 q:Nat
 pr:Pr
 left:Int
 torn:Bool
 gen:Int
def Mx.o(M:Mx):Mo:=⟨M.L,M.inp,M.m,M.q,M.pr,M.left,M.torn,M.gen⟩
def vS(x d s m:Nat)(wv:Value)(q:Nat)(pv iv:Value):List Nat:=x::(uG d s m wv++((q::aW pv)++aW iv))
theorem dU{x d s m q k:Nat}{wv pv iv:Value}:k∈vS x d s m wv q pv iv↔k=x∨k=m∨k=s∨k∈dh d wv∨k∈q::aW pv∨k∈aW iv:=by
 unfold vS uG;simp only[List.mem_cons,List.mem_append,or_assoc]
structure Mv(R:Nat→Prop)(B:Nat)(w:World)(x:Nat)(O:Mo)(d s:Nat)(S W:List Int)(D:List Bool)(wv cv iv pv:Value):Prop where
 st:St B w d s O.m S W D wv
 hs:B≤s
 gen:fE S=O.gen
 pr:Pv R B w O.q pv O.pr
 af:ak w x (uM O.m cv iv O.q O.left O.torn) zg
 code:lC R w cv O.L
 inp:bl w B iv O.inp
 hx:B≤x
 IF:jI pv iv
 nr:∀k∈vS x d s O.m wv O.q pv iv,¬R k
def Vx(Y:Nat→List Int→Prop)(R:Nat→Prop)(B:Nat)(w:World)(x:Nat)(fp:List Nat)(O:Mo)(E:List Int→Prop):Prop:=∃d s S W D wv cv iv pv,fp=vS x d s O.m wv O.q pv iv∧Mv R B w x O d s S W D wv cv iv pv∧E W∧Y d S
structure kC(Z W:List Int)(m:Md):Prop extends Enc W m where
 AR:∀j,5+m.cells.length≤j→W[j]?=Z[j]?
structure Ff(Z W:List Int)(m:Md):Prop extends Enc W m where
 agb:∀j,5+m.cells.length≤j→(j<53∨53+m.stack.length≤j)→W[j]?=Z[j]?
theorem kC.b{Z W:List Int}{m:Md}(h:kC Z W m):Ff Z W m:=⟨h.toEnc,fun j hj _=>h.AR j hj⟩
def Vm(Y:Nat→List Int→Prop)(Z:List Int)(R:Nat→Prop)(B:Nat)(w:World)(x:Nat)(fp:List Nat)(M:Mx):Prop:=Vx Y R B w x fp M.o fun W=>kC Z W M.md
def Vp(Y:Nat→List Int→Prop)(Z:List Int)(R:Nat→Prop)(B:Nat)(w:World)(x:Nat)(fp:List Nat)(M:Mx):Prop:=Vx Y R B w x fp M.o fun W=>Ff Z W M.md
section
variable{Y:Nat→List Int→Prop}{Z:List Int}{R:Nat→Prop}{B:Nat}{w w':World}{x d s:Nat}{fp kB:List Nat}{O:Mo}{S W:List Int}{D:List Bool}{wv cv iv pv:Value}{E E':List Int→Prop}
theorem Mv.lt(h:Mv R B w x O d s S W D wv cv iv pv):∀k∈vS x d s O.m wv O.q pv iv,B≤k∧k<w.heap.size∧¬R k:=fun k hk=>by
 have hn:=h.nr k hk;refine⟨?_,?_,hn⟩
 ·rcases dU.1 hk with rfl|rfl|rfl|hk|hk|hk
  ·exact h.hx
  ·exact h.st.hm
  ·exact h.hs
  ·exact(h.st.nu.lt k hk).1
  ·exact(h.pr.lt k hk).1
  ·exact(h.inp.lt k hk).1
 ·rcases dU.1 hk with rfl|rfl|rfl|hk|hk|hk
  ·exact h.af.lt
  ·exact h.st.mem.af.lt
  ·exact ak.lt h.st.vT
  ·exact(h.st.nu.lt k hk).2
  ·exact(h.pr.lt k hk).2.1
  ·exact(h.inp.lt k hk).2
theorem Mv.keep(h:Mv R B w x O d s S W D wv cv iv pv)(hk:ae kB w w')(hn:∀k∈kB,¬R k∧k∉vS x d s O.m wv O.q pv iv):Mv R B w' x O d s S W D wv cv iv pv:=by
 have hx:∀k,k∈vS x d s O.m wv O.q pv iv→k∉kB:=fun k hk hm=>(hn k hm).2 hk;refine⟨⟨h.st.mem.keep hk (hx _ (dU.2 (.inr (.inl rfl)))),hk.af h.st.vT (hx _ (dU.2 (.inr (.inr (.inl rfl))))),h.st.nu.keep hk fun k hk=>hx _ (dU.2 (.inr (.inr (.inr (.inl hk))))),h.st.tj,h.st.tied,h.st.hm⟩,h.hs,h.gen,
  h.pr.keep hk fun k hm hq=>(hn k hm).2 (dU.2 (.inr (.inr (.inr (.inr (.inl hq)))))),hk.af h.af (hx _ (dU.2 (.inl rfl))),h.code.keep hk fun c hR=>⟨h.pr.ro c hR,fun hm=>(hn c hm).1 hR⟩,
  h.inp.keep hk fun k hq=>hx _ (dU.2 (.inr (.inr (.inr (.inr (.inr hq)))))),h.hx,h.IF,h.nr⟩
theorem Vx.lt(h:Vx Y R B w x fp O E):∀k∈fp,B≤k∧k<w.heap.size∧¬R k:=by
 obtain⟨d,s,S,W,D,wv,cv,iv,pv,rfl,h,_⟩:=h;exact h.lt
theorem Vx.in(h:Vx Y R B w x fp O E):x∈fp:=by
 obtain⟨d,s,S,W,D,wv,cv,iv,pv,rfl,h,_⟩:=h;exact dU.2 (.inl rfl)
theorem Vx.gk(h:Vx Y R B w x fp O E):O.m∈fp:=by
 obtain⟨d,s,S,W,D,wv,cv,iv,pv,rfl,h,_⟩:=h;exact dU.2 (.inr (.inl rfl))
theorem Vx.keep(h:Vx Y R B w x fp O E)(hk:ae kB w w')(hn:∀k∈kB,¬R k∧k∉fp):Vx Y R B w' x fp O E:=by
 obtain⟨d,s,S,W,D,wv,cv,iv,pv,rfl,h,he⟩:=h;exact⟨d,s,S,W,D,wv,cv,iv,pv,rfl,h.keep hk hn,he⟩
theorem Vx.aA(h:Vx Y R B w x fp O E)(hk:ae [] w w'):Vx Y R B w' x fp O E:=h.keep hk fun k hk=>by cases hk
theorem Vx.mono(h:Vx Y R B w x fp O E)(he:∀W,W.length=112→E W→E' W):Vx Y R B w x fp O E':=by
 obtain⟨d,s,S,W,D,wv,cv,iv,pv,rfl,h,e⟩:=h;exact⟨d,s,S,W,D,wv,cv,iv,pv,rfl,h,he W h.st.mem.wl e.1,e.2⟩
theorem Vx.ptr(h:Vx Y R B w x fp O E):w.cell? ⟨x,0,none⟩=some (.pointer (some ⟨O.m,0,none⟩)):=by
 obtain⟨d,s,S,W,D,wv,cv,iv,pv,rfl,h,_⟩:=h;exact h.af.cell rfl
theorem Vx.prt(h:Vx Y R B w x fp O E):w.cell? ⟨x,3,none⟩=some (.pointer (some ⟨O.q,0,none⟩)):=by
 obtain⟨d,s,S,W,D,wv,cv,iv,pv,rfl,h,_⟩:=h;exact h.af.cell rfl
theorem Vx.bk(h:Vx Y R B w x fp O E):∃cv iv,ak w x (uM O.m cv iv O.q O.left O.torn) zg∧lC R w cv O.L∧bl w B iv O.inp∧∀k,R k→k<w.heap.size:=by
 obtain⟨d,s,S,W,D,wv,cv,iv,pv,rfl,h,_⟩:=h;exact⟨cv,iv,h.af,h.code,h.inp,h.pr.ro⟩
theorem Vx.load(h:Vx Y R B w x fp O E)(i:Int)(v:Int)(he:∀W,W.length=112→E W→Eb W i=v):aC prog 183 [.pointer (some ⟨O.m,0,none⟩),.int .i64 i] w fun r w'=>r=.int .i64 v∧w'=w:=by
 obtain⟨d,s,S,W,D,wv,cv,iv,pv,rfl,h,e⟩:=h;rw[←he W h.st.mem.wl e.1];exact aix h.st.mem i
theorem Vx.put(h:Vx Y R B w x fp O E)(i v:Int)(he:∀W,W.length=112→E W→E' (xe W i v)):aC prog 210 [.pointer (some ⟨O.m,0,none⟩),.int .i64 i,.int .i64 v] w fun r w'=>r=.bool (nW i)∧Vx Y R B w' x fp O E'∧ae [O.m] w w':=by
 obtain⟨d,s,S,W,D,wv,cv,iv,pv,rfl,h,e⟩:=h;refine(aiB h.st i v).mono ?_;rintro r w1⟨rfl,h1,ah⟩;refine⟨rfl,⟨d,s,S,_,_,wv,cv,iv,pv,rfl,⟨h1,h.hs,h.gen,?_,?_,?_,?_,h.hx,h.IF,h.nr⟩,he W h.st.mem.wl e.1,e.2⟩,ah⟩
 ·refine h.pr.keep ah fun k hm hq=>?_;rw[List.mem_singleton.1 hm]at hq;rcases List.mem_cons.1 hq with hq|hq
  ·exact ak.ne h.st.mem.af h.pr.af (by decide) hq
  ·exact h.pr.row.ne h.st.mem.af (by decide) _ hq (by simp)
 ·exact ah.af h.af (by simp;exact ak.ne h.af h.st.mem.af (by decide))
 ·refine h.code.keep ah fun c hR=>⟨h.pr.ro c hR,fun hm=>?_⟩;rw[List.mem_singleton.1 hm]at hR;exact h.nr _ (dU.2 (.inr (.inl rfl))) hR
 ·exact h.inp.keep ah (h.inp.ne h.st.mem.af (by decide))
end
theorem wu{W:List Int}{i:Nat}{v:Int}(h:W[i]?=some v)(hi:i<112):Eb W ((i:Nat):Int)=v:=by
 have hm:nW ((i:Nat):Int)=true:=by simp[nW];omega
 unfold Eb;rw[hm,if_pos rfl,Int.toNat_natCast,List.getD_eq_getElem?_getD,h];rfl
theorem wC(W:List Int){i:Nat}(v:Int)(hi:i<112):xe W ((i:Nat):Int) v=W.set i v:=by
 have hm:nW ((i:Nat):Int)=true:=by simp[nW];omega
 unfold xe;rw[hm,if_pos rfl,Int.toNat_natCast]
theorem BC{W:List Int}(hl:W.length=112){i:Nat}(hi:i<112)(v:Int):(W.set i v)[i]?=some v:=by
 rw[List.getElem?_set,if_pos rfl,if_pos (by omega)]
theorem dV{W:List Int}{i j:Nat}(h:i≠j)(v:Int):(W.set i v)[j]?=W[j]?:=by rw[List.getElem?_set,if_neg h]
section
variable{W:List Int}{m:Md}
theorem aiF(h:Enc W m)(hl:W.length=112)(n:Nat):Enc (W.set 0 (n:Int)) {m with next:=n}:=
 ⟨BC hl (by decide) _,(dV (by decide) _).trans h.many,(dV (by decide) _).trans h.read,(dV (by decide) _).trans h.out,(dV (by decide) _).trans h.state,fun i x hi=>(dV (by omega) _).trans (h.cells i x hi),fun i x hi=>(dV (by omega) _).trans (h.stack i x hi)⟩
theorem WZ(h:Enc W m)(hl:W.length=112){s:List Int}{k:Int}(hk:k=(s.length:Nat))(hs:∀i x,s[i]?=some x→W[53+i]?=some x):Enc (W.set 1 k) {m with stack:=s}:=
 ⟨(dV (by decide) _).trans h.next,by rw[BC hl (by decide),hk],(dV (by decide) _).trans h.read,(dV (by decide) _).trans h.out,(dV (by decide) _).trans h.state,fun i x hi=>(dV (by omega) _).trans (h.cells i x hi),fun i x hi=>(dV (by omega) _).trans (hs i x hi)⟩
theorem aiG(h:Enc W m)(hl:W.length=112){k:Int}{n:Nat}(hk:k=(n:Nat)):Enc (W.set 2 k) {m with read:=n}:=
 ⟨(dV (by decide) _).trans h.next,(dV (by decide) _).trans h.many,by rw[BC hl (by decide),hk],(dV (by decide) _).trans h.out,(dV (by decide) _).trans h.state,fun i x hi=>(dV (by omega) _).trans (h.cells i x hi),fun i x hi=>(dV (by omega) _).trans (h.stack i x hi)⟩
theorem akk(h:Enc W m)(hl:W.length=112){k:Int}{n:Nat}(hk:k=(n:Nat)):Enc (W.set 3 k) {m with out:=n}:=
 ⟨(dV (by decide) _).trans h.next,(dV (by decide) _).trans h.many,(dV (by decide) _).trans h.read,by rw[BC hl (by decide),hk],(dV (by decide) _).trans h.state,fun i x hi=>(dV (by omega) _).trans (h.cells i x hi),fun i x hi=>(dV (by omega) _).trans (h.stack i x hi)⟩
theorem ag1(h:Enc W m)(hl:W.length=112){k:Int}{n:Nat}(hk:k=(n:Nat)):Enc (W.set 4 k) {m with state:=n}:=
 ⟨(dV (by decide) _).trans h.next,(dV (by decide) _).trans h.many,(dV (by decide) _).trans h.read,(dV (by decide) _).trans h.out,by rw[BC hl (by decide),hk],fun i x hi=>(dV (by omega) _).trans (h.cells i x hi),fun i x hi=>(dV (by omega) _).trans (h.stack i x hi)⟩
theorem aiH(h:Enc W m)(hl:W.length=112)(hc:m.cells.length≤48){a:Nat}(ha:a<m.cells.length)(n:Int):Enc (W.set (5+a) n) {m with cells:=m.cells.set a n}:=by
 refine⟨(dV (by omega) _).trans h.next,(dV (by omega) _).trans h.many,(dV (by omega) _).trans h.read,(dV (by omega) _).trans h.out,(dV (by omega) _).trans h.state,fun i x hi=>?_,fun i x hi=>(dV (by omega) _).trans (h.stack i x hi)⟩;simp only[List.getElem?_set]at hi;by_cases e:a=i
 ·subst e;rw[if_pos rfl,if_pos ha]at hi;cases hi;exact BC hl (by omega) _
 ·rw[if_neg e]at hi;exact(dV (by omega) _).trans (h.cells i x hi)
theorem akl(h:Enc W m)(hc:m.cells.length≤48)(n:Int):Enc (W.set (53+m.stack.length) n) m:=by
 refine⟨(dV (by omega) _).trans h.next,(dV (by omega) _).trans h.many,(dV (by omega) _).trans h.read,(dV (by omega) _).trans h.out,(dV (by omega) _).trans h.state,fun i x hi=>?_,fun i x hi=>?_⟩
 ·have:=(List.getElem?_eq_some_iff.1 hi).1;exact(dV (by omega) _).trans (h.cells i x hi)
 ·have:=(List.getElem?_eq_some_iff.1 hi).1;exact(dV (by omega) _).trans (h.stack i x hi)
end
section
variable{Z W:List Int}{m:Md}
theorem W0(h:kC Z W m)(hl:W.length=112)(n:Nat):kC Z (W.set 0 (n:Int)) {m with next:=n}:=⟨aiF h.toEnc hl n,fun j hj=>(dV (by omega) _).trans (h.AR j hj)⟩
theorem aiI(h:kC Z W m)(hl:W.length=112){k:Int}{n:Nat}(hk:k=(n:Nat)):kC Z (W.set 2 k) {m with read:=n}:=⟨aiG h.toEnc hl hk,fun j hj=>(dV (by omega) _).trans (h.AR j hj)⟩
theorem akm(h:kC Z W m)(hl:W.length=112){k:Int}{n:Nat}(hk:k=(n:Nat)):kC Z (W.set 3 k) {m with out:=n}:=⟨akk h.toEnc hl hk,fun j hj=>(dV (by omega) _).trans (h.AR j hj)⟩
theorem VK(h:kC Z W m)(hl:W.length=112){k:Int}{n:Nat}(hk:k=(n:Nat)):kC Z (W.set 4 k) {m with state:=n}:=⟨ag1 h.toEnc hl hk,fun j hj=>(dV (by omega) _).trans (h.AR j hj)⟩
theorem aiJ(h:kC Z W m)(hl:W.length=112)(hc:m.cells.length≤48){a:Nat}(ha:a<m.cells.length)(n:Int):kC Z (W.set (5+a) n) {m with cells:=m.cells.set a n}:=
 ⟨aiH h.toEnc hl hc ha n,fun j hj=>by
  have hj:5+(m.cells.set a n).length≤j:=hj;rw[List.length_set]at hj;exact(dV (by omega) _).trans (h.AR j hj)⟩
end
theorem W1:((prog.info? 252).bind (·.zero)).map (·.cells)=some (iC (0,0,0,0)).toArray:=by kernel_rfl
theorem W3:dH prog 252 4=true:=by kernel_rfl
section
variable{Y:Nat→List Int→Prop}{Z:List Int}{R:Nat→Prop}{B:Nat}{w:World}{x:Nat}{fp:List Nat}{M:Mx}
theorem Vm.b(h:Vm Y Z R B w x fp M):Vp Y Z R B w x fp M:=Vx.mono h fun _ _ e=>e.b
theorem Oq(h:Vm Y Z R B w x fp M):aC prog 208 [.pointer (some ⟨x,0,none⟩)] w fun r w'=>r=.bool (decide (M.md.state=0))∧w'=w:=by
 refine aG 9 func208 ?_;refine au ?_;refine ai _ (aB rfl (h.ptr)) ?_;refine oC (h.load 4 (M.md.state:Nat) fun W hl e=>wu e.state (by decide)) ?_;rintro r w1⟨rfl,cC⟩;rw[cC];by_cases hs:M.md.state=0
 ·refine ye ?_;refine au ?_;exact ay func208 rfl ⟨by simp[hs],rfl⟩
 ·refine aL ?_;refine au ?_;exact ay func208 rfl ⟨by simp[hs],rfl⟩
theorem UO(h:Vm Y Z R B w x fp M){i:Is}(hi:M.L[M.md.next]?=some i):aC prog 209 [.pointer (some ⟨x,0,none⟩)] w fun r w'=>r=.agg (iC i).toArray∧ae [] w w':=by
 have hn:M.md.next<M.L.length:=(List.getElem?_eq_some_iff.1 hi).1;refine aG 28 func209 ?_;refine au ?_;refine aj (bO _ rfl W1 ?_);intro w1 x1 cJ bt ah aM;have h1:=h.aA ah;obtain⟨cv,iv,je,kV,_,tK⟩:=h1.bk;obtain⟨cb,cq,cA,rfl,ik,dN⟩:=kV.at hi;refine au ?_;refine ai _ (aB rfl (h1.ptr)) ?_;refine oC (h1.load 0 (M.md.next:Nat) fun W hl e=>wu e.next (by decide)) ?_;rintro r L4⟨rfl,cC⟩;rw[cC];refine aL ?_;refine lB je ?_;refine au ?_;have MI:M.md.next<M.o.L.length:=hn;refine aL ?_;refine lB je ?_;refine au ?_;refine ai _ (bJ M.md.next rfl MI w1) ?_;refine ai (.agg (iC i).toArray) (bF (iC i) rfl dN) ?_;refine aj (aH (iC i) rfl W3 aM (by simp[iC]) (nJ _) ?_);intro w2 cE an aX;rw[bs (by rfl)]at aX;refine au ?_;exact df func209 (.inr (.inr (.inl ⟨_,_,_,rfl,rfl,cV hT aX rfl⟩))) ⟨rfl,ah.aO an (by omega)⟩
theorem zt(h:Vm Y Z R B w x fp M)(hs:M.md.stack.length≤58)(hc:M.md.cells.length≤48)(n:Int):aC prog 237 [.pointer (some ⟨x,0,none⟩),.int .i64 n] w fun r w'=>r=.tuple #[]∧Vp Y Z R B w' x fp {M with md:={M.md with stack:=M.md.stack++[n]}}∧ae [M.m] w w':=by
 refine aG 25 func237 ?_;refine au ?_;refine ai _ (aB rfl (h.ptr)) ?_;refine oC (h.load 1 (M.md.stack.length:Nat) fun W hl e=>wu e.many (by decide)) ?_;rintro r w1⟨rfl,cC⟩;rw[cC];refine au ?_;refine ai _ (aB rfl (h.ptr)) ?_;refine nM ((53+M.md.stack.length:Nat):Int) ?_;refine au ?_;refine aj (aV (fst:=[]) (cap:=[]) rfl ((h.put (E':=fun W=>Enc W M.md∧W[53+M.md.stack.length]?=some n∧∀j,5+M.md.cells.length≤j→j≠53+M.md.stack.length→W[j]?=Z[j]?) ((53+M.md.stack.length:Nat):Int) n fun W hl e=>by
  rw[wC W n (by omega)];exact⟨akl e.toEnc hc n,BC hl (by omega) n,fun j hj bS=>(dV (by omega) _).trans (e.AR j hj)⟩).mono ?_))
 rintro r w2⟨rfl,h2,an⟩;refine au ?_;refine ai _ (aB rfl (h2.ptr)) ?_;refine nM ((M.md.stack.length+1:Nat):Int) ?_;refine aj (aV (fst:=[]) (cap:=[]) rfl ((h2.put (E':=fun W=>Ff Z W {M.md with stack:=M.md.stack++[n]}) 1 ((M.md.stack.length+1:Nat):Int) fun W hl e=>by
  rw[show(1:Int)=((1:Nat):Int) from rfl,wC W _ (by decide)];refine⟨WZ e.1 hl (by simp) fun i v hi=>?_,fun j hj hf=>(dV (by omega) _).trans (e.2.2 j hj (by simp only[List.length_append,List.length_cons,List.length_nil]at hf;omega))⟩;rw[List.getElem?_append]at hi;split at hi
  ·exact e.1.stack i v hi
  ·have hj:=(List.getElem?_eq_some_iff.1 hi).1;simp only[List.length_cons,List.length_nil]at hj;rw[show i-M.md.stack.length=0 by omega]at hi;rw[show i=M.md.stack.length by omega,e.2.1];exact hi).mono ?_))
 rintro r w3⟨rfl,h3,aw⟩;refine au ?_;exact bK func237 rfl ⟨rfl,h3,an.tr aw⟩
theorem p9(h:Vm Y Z R B w x fp M)(h0:1≤M.md.stack.length)(hs:M.md.stack.length≤59):aC prog 239 [.pointer (some ⟨x,0,none⟩)] w fun r w'=>r=.int .i64 (aR M.md.stack)∧Vm Y Z R B w' x fp {M with md:={M.md with stack:=M.md.stack.dropLast}}∧ae [M.m] w w':=by
 obtain⟨k,hk⟩:∃k,M.md.stack.length=k+1:=⟨M.md.stack.length-1,by omega⟩;refine aG 23 func239 ?_;refine au ?_;refine ai _ (aB rfl (h.ptr)) ?_;refine oC (h.load 1 (M.md.stack.length:Nat) fun W hl e=>wu e.many (by decide)) ?_;rintro r w1⟨rfl,cC⟩;rw[cC];refine nM ((k:Nat):Int) ?_;refine au ?_;refine ai _ (aB rfl (h.ptr)) ?_;refine au ?_;refine aj (aV (fst:=[]) (cap:=[]) rfl ((h.put (E':=fun W=>kC Z W {M.md with stack:=M.md.stack.dropLast}∧W[53+k]?=some (aR M.md.stack)) 1 ((k:Nat):Int) fun W hl e=>by
  rw[show(1:Int)=((1:Nat):Int) from rfl,wC W _ (by decide)];refine⟨⟨WZ e.toEnc hl (by simp;omega) fun i v hi=>?_,fun j hj=>(dV (by omega) _).trans (e.AR j hj)⟩,(dV (by omega) _).trans (e.stack k _ (ajo hk))⟩;rw[List.getElem?_dropLast]at hi;split at hi
  ·exact e.stack i v hi
  ·cases hi).mono ?_))
 rintro r w2⟨rfl,h2,an⟩;refine au ?_;refine ai _ (aB rfl (h2.ptr)) ?_;refine nM ((53+k:Nat):Int) ?_;refine oC (h2.load ((53+k:Nat):Int) (aR M.md.stack) fun W hl e=>wu e.2 (by omega)) ?_;rintro r w3⟨rfl,cC⟩;rw[cC];refine au ?_;exact ay func239 rfl ⟨rfl,h2.mono fun W _ e=>e.1,an⟩
theorem Ot(h:Vm Y Z R B w x fp M)(hc:M.md.cells.length≤48){a:Nat}(ha:a<M.md.cells.length):aC prog 144 [.pointer (some ⟨x,0,none⟩),.int .i64 (a:Nat)] w fun r w'=>r=.int .i64 (cellAt M.md.cells ((a:Nat):Int))∧w'=w:=by
 refine aG 12 func144 ?_;refine au ?_;refine ai _ (aB rfl (h.ptr)) ?_;refine nM ((5+a:Nat):Int) ?_;refine oC (h.load ((5+a:Nat):Int) (cellAt M.md.cells ((a:Nat):Int)) fun W hl e=>wu (e.cells a _ (A3 ha)) (by omega)) ?_;rintro r w1⟨rfl,cC⟩;rw[cC];refine au ?_;exact ay func144 rfl ⟨rfl,rfl⟩
theorem M6(h:Vm Y Z R B w x fp M)(hc:M.md.cells.length≤48){a:Nat}(ha:a<M.md.cells.length)(n:Int):aC prog 241 [.pointer (some ⟨x,0,none⟩),.int .i64 (a:Nat),.int .i64 n] w fun r w'=>r=.tuple #[]∧Vm Y Z R B w' x fp {M with md:={M.md with cells:=M.md.cells.set a n}}∧ae [M.m] w w':=by
 refine aG 14 func241 ?_;refine au ?_;refine ai _ (aB rfl (h.ptr)) ?_;refine nM ((5+a:Nat):Int) ?_;refine au ?_;refine aj (aV (fst:=[]) (cap:=[]) rfl ((h.put (E':=fun W=>kC Z W {M.md with cells:=M.md.cells.set a n}) ((5+a:Nat):Int) n fun W hl e=>by
  rw[wC W n (by omega)];exact aiJ e hl hc ha n).mono ?_))
 rintro r w2⟨rfl,h2,an⟩;refine au ?_;exact bK func241 rfl ⟨rfl,h2,an⟩
theorem VL(h:Vm Y Z R B w x fp M)(t:Nat):aC prog 245 [.pointer (some ⟨x,0,none⟩),.int .i64 (t:Nat)] w fun r w'=>r=.tuple #[]∧Vm Y Z R B w' x fp {M with md:={M.md with next:=t}}∧ae [M.m] w w':=by
 refine aG 10 func245 ?_;refine au ?_;refine ai _ (aB rfl (h.ptr)) ?_;refine au ?_;refine aj (aV (fst:=[]) (cap:=[]) rfl ((h.put (E':=fun W=>kC Z W {M.md with next:=t}) 0 (t:Nat) fun W hl e=>by
  rw[show(0:Int)=((0:Nat):Int) from rfl,wC W _ (by decide)];exact W0 e hl t).mono ?_))
 rintro r w2⟨rfl,h2,an⟩;refine au ?_;exact bK func245 rfl ⟨rfl,h2,an⟩
theorem N0(h:Vm Y Z R B w x fp M)(t:Nat)(ht:t≤1000):aC prog 262 [.pointer (some ⟨x,0,none⟩),.int .i64 (t:Nat)] w fun r w'=>r=.tuple #[]∧Vm Y Z R B w' x fp {M with md:={M.md with state:=t+2}}∧ae [M.m] w w':=by
 refine aG 11 func262 ?_;refine au ?_;refine ai _ (aB rfl (h.ptr)) ?_;refine nM ((t+2:Nat):Int) ?_;refine aj (aV (fst:=[]) (cap:=[]) rfl ((h.put (E':=fun W=>kC Z W {M.md with state:=t+2}) 4 ((t+2:Nat):Int) fun W hl e=>by
  rw[show(4:Int)=((4:Nat):Int) from rfl,wC W _ (by decide)];exact VK e hl rfl).mono ?_))
 rintro r w2⟨rfl,h2,an⟩;refine au ?_;exact bK func262 rfl ⟨rfl,h2,an⟩
end
theorem Ji(b:Bool)(w:World):aC prog 263 [.bool b] w fun r w'=>r=.int .i64 (sT b)∧w'=w:=by
 refine aG 4 func263 ?_;cases b
 ·refine au ?_;exact ay func263 rfl ⟨rfl,rfl⟩
 ·refine au ?_;exact ay func263 rfl ⟨rfl,rfl⟩
theorem FF(op a b:Int)(vy:4≤op∧op≤8)(w:World):aC prog 240 [.int .i64 op,.int .i64 a,.int .i64 b] w fun r w'=>r=.int .i64 (mq op a b)∧w'=w:=by
 have hc:op=4∨op=5∨op=6∨op=7∨op=8:=by omega
 refine aG 33 func240 ?_;rcases hc with rfl|rfl|rfl|rfl|rfl
 ·have he:mq 4 a b=IntKind.i64.wrap (a+b):=if_pos rfl;rw[he];generalize hz:IntKind.i64.wrap (a+b)=z;refine aU ?_;refine ai (.int .i64 z) (bP .i64 a b _ rfl (by rw[←hz];simp only[bU]) w) ?_;refine au ?_;exact ay func240 rfl ⟨rfl,rfl⟩
 ·have he:mq 5 a b=IntKind.i64.wrap (a-b):=by unfold mq;rw[if_neg (by decide),if_pos rfl]
  rw[he];generalize hz:IntKind.i64.wrap (a-b)=z;refine aU ?_;refine ai (.int .i64 z) (bP .i64 a b _ rfl (by rw[←hz];simp only[bU]) w) ?_;refine au ?_;exact ay func240 rfl ⟨rfl,rfl⟩
 ·have he:mq 6 a b=IntKind.i64.wrap (a*b):=by unfold mq;rw[if_neg (by decide),if_neg (by decide),if_pos rfl]
  rw[he];generalize hz:IntKind.i64.wrap (a*b)=z;refine aU ?_;refine ai (.int .i64 z) (bP .i64 a b _ rfl (by rw[←hz];simp only[bU]) w) ?_;refine au ?_;exact ay func240 rfl ⟨rfl,rfl⟩
 ·refine aU ?_;have he:mq 7 a b=sT (decide (a<b)):=by unfold mq;rw[if_neg (by decide),if_neg (by decide),if_neg (by decide),if_pos rfl]
  by_cases hl:a<b
  ·refine ye ?_;refine oC (Ji true w) ?_;rintro r w1⟨rfl,cC⟩;rw[cC];refine au ?_;exact ay func240 rfl ⟨by rw[he];simp[hl],rfl⟩
  ·refine aL ?_;refine oC (Ji false w) ?_;rintro r w1⟨rfl,cC⟩;rw[cC];refine au ?_;exact ay func240 rfl ⟨by rw[he];simp[hl],rfl⟩
 ·refine aU ?_;have he:mq 8 a b=sT (a==b):=by unfold mq;rw[if_neg (by decide),if_neg (by decide),if_neg (by decide),if_neg (by decide)]
  by_cases hl:a=b
  ·refine ye ?_;refine oC (Ji true w) ?_;rintro r w1⟨rfl,cC⟩;rw[cC];refine au ?_;exact ay func240 rfl ⟨by rw[he,hl,beq_self_eq_true],rfl⟩
  ·refine aL ?_;refine oC (Ji false w) ?_;rintro r w1⟨rfl,cC⟩;rw[cC];refine au ?_;exact ay func240 rfl ⟨by rw[he,beq_eq_false_iff_ne.2 hl],rfl⟩
def ui(k n:Int):Bool:=decide (0≤n∧n<k)
theorem VM(i:Is)(n:Int)(w:World):aC prog 261 [.agg (iC i).toArray,.int .i64 n] w fun r w'=>r=.bool (ui i.2.2.1 n)∧ae [] w w':=by
 refine aG 13 func261 ?_;refine au ?_;refine aj (bY (iC i) rfl ?_);intro w1 x1 cJ bt ah aM;refine au ?_;by_cases h0:0≤n
 ·refine ye ?_;refine lB aM ?_;by_cases h1:n<i.2.2.1
  ·refine ye ?_;refine au ?_;exact ay func261 rfl ⟨by simp[ui,h0,h1],ah⟩
  ·refine aL ?_;refine au ?_;exact ay func261 rfl ⟨by simp[ui,h1],ah⟩
 ·refine aL ?_;refine au ?_;exact ay func261 rfl ⟨by simp[ui,h0],ah⟩
section
variable{Y:Nat→List Int→Prop}{Z:List Int}{R:Nat→Prop}{B:Nat}{w:World}{x:Nat}{fp:List Nat}{M:Mx}
theorem adz(h:Vm Y Z R B w x fp M)(i:Is)(h1:1≤M.md.stack.length)(hs:M.md.stack.length≤24)(hc:M.md.cells.length≤48)(hA:0≤i.2.1)(Rx:i.2.1+i.2.2.1≤(M.md.cells.length:Int)):aC prog 238 [.pointer (some ⟨x,0,none⟩),.agg (iC i).toArray] w fun r w'=>r=.tuple #[]∧ae [M.m] w w'∧Vp Y Z R B w' x fp {M with md:=if 0≤aR M.md.stack∧aR M.md.stack<i.2.2.1 then{M.md with stack:=M.md.stack.dropLast++[cellAt M.md.cells (i.2.1+aR M.md.stack)]}else{M.md with stack:=M.md.stack.dropLast,state:=13}}:=by
 refine aG 21 func238 ?_;refine au ?_;refine aj (bY (iC i) rfl ?_);intro w1 x1 cJ bt ah aM;have mK:=(h.lt _ h.gk).2.1;have jh:x1∉[M.m]:=by
  intro hm;have hm:x1=M.o.m:=List.mem_singleton.1 hm;omega
 refine oC (p9 (Vx.aA h ah) h1 (by omega)) ?_;rintro r w2⟨rfl,h2,an⟩;have aX:=an.af aM jh;refine au ?_;refine ai (.agg (iC i).toArray) (bF (iC i) rfl (aX.range (by rfl))) ?_;refine oC (VM i (aR M.md.stack) w2) ?_;rintro r w3⟨rfl,aw⟩;have h3:=Vx.aA h2 aw;have aQ:=aw.af aX (by simp);have bZ:ae [M.m] w1 w3:=an.dt aw;by_cases iJ:0≤aR M.md.stack∧aR M.md.stack<i.2.2.1
 ·rw[if_pos iJ];rw[show ui i.2.2.1 (aR M.md.stack)=true by simp[ui,iJ]];obtain⟨a,ha⟩:∃a:Nat,i.2.1+aR M.md.stack=(a:Nat):=⟨(i.2.1+aR M.md.stack).toNat,by omega⟩;refine lB aQ ?_;refine nM ((a:Nat):Int) ?_;refine oC (Ot h3 hc (a:=a) (by show a<M.md.cells.length;omega)) ?_;rintro r w4⟨rfl,cC⟩;rw[cC];refine oC (zt h3 (by show M.md.stack.dropLast.length≤58;rw[List.length_dropLast];omega) hc _) ?_;rintro r w5⟨rfl,h5,aE⟩;refine au ?_;rw[ha];exact bK func238 rfl ⟨rfl,ah.bG.tr (bZ.tr aE),h5⟩
 ·rw[if_neg iJ];rw[show ui i.2.2.1 (aR M.md.stack)=false by simpa[ui]using iJ];refine oC (N0 h3 11 (by decide)) ?_;rintro r w4⟨rfl,h4,ax⟩;refine au ?_;exact df func238 (.inr (.inl ⟨rfl,rfl⟩)) ⟨rfl,ah.bG.tr (bZ.tr ax),h4.b⟩
theorem adA(h:Vm Y Z R B w x fp M)(i:Is)(h1:2≤M.md.stack.length)(hs:M.md.stack.length≤24)(hc:M.md.cells.length≤48)(hA:0≤i.2.1)(Rx:i.2.1+i.2.2.1≤(M.md.cells.length:Int)):aC prog 242 [.pointer (some ⟨x,0,none⟩),.agg (iC i).toArray] w fun r w'=>r=.tuple #[]∧ae [M.m] w w'∧Vm Y Z R B w' x fp {M with md:=if 0≤aR M.md.stack.dropLast∧aR M.md.stack.dropLast<i.2.2.1 then{M.md with stack:=M.md.stack.dropLast.dropLast,cells:=M.md.cells.set (i.2.1+aR M.md.stack.dropLast).toNat (aR M.md.stack)}else{M.md with stack:=M.md.stack.dropLast.dropLast,state:=13}}:=by
 refine aG 23 func242 ?_;refine au ?_;refine aj (bY (iC i) rfl ?_);intro w1 x1 cJ bt ah aM;have mK:=(h.lt _ h.gk).2.1;have jh:x1∉[M.m]:=by
  intro hm;have hm:x1=M.o.m:=List.mem_singleton.1 hm;omega
 refine oC (p9 (Vx.aA h ah) (by omega) (by omega)) ?_;rintro r w2⟨rfl,h2,an⟩;refine oC (p9 h2 (by show 1≤M.md.stack.dropLast.length;rw[List.length_dropLast];omega) (by show M.md.stack.dropLast.length≤59;rw[List.length_dropLast];omega)) ?_;rintro r w3⟨rfl,h3,aw⟩;have bZ:ae [M.m] w1 w3:=an.tr aw;have aQ:=bZ.af aM jh;refine au ?_;refine ai (.agg (iC i).toArray) (bF (iC i) rfl (aQ.range (by rfl))) ?_;refine oC (VM i (aR M.md.stack.dropLast) w3) ?_;rintro r w4⟨rfl,ax⟩;have h4:=Vx.aA h3 ax;have a_:=ax.af aQ (by simp);have gP:ae [M.m] w1 w4:=bZ.dt ax;by_cases iJ:0≤aR M.md.stack.dropLast∧aR M.md.stack.dropLast<i.2.2.1
 ·rw[if_pos iJ];rw[show ui i.2.2.1 (aR M.md.stack.dropLast)=true by simp[ui,iJ]];obtain⟨a,ha⟩:∃a:Nat,i.2.1+aR M.md.stack.dropLast=(a:Nat):=⟨(i.2.1+aR M.md.stack.dropLast).toNat,by omega⟩;refine lB a_ ?_;refine nM ((a:Nat):Int) ?_;refine oC (M6 h4 hc (a:=a) (by show a<M.md.cells.length;omega) (aR M.md.stack)) ?_;rintro r w5⟨rfl,h5,aE⟩;refine au ?_;rw[ha,Int.toNat_natCast];exact bK func242 rfl ⟨rfl,ah.bG.tr (gP.tr aE),h5⟩
 ·rw[if_neg iJ];rw[show ui i.2.2.1 (aR M.md.stack.dropLast)=false by simpa[ui]using iJ];refine oC (N0 h4 11 (by decide)) ?_;rintro r w5⟨rfl,h5,aE⟩;refine au ?_;exact df func242 (.inr (.inl ⟨rfl,rfl⟩)) ⟨rfl,ah.bG.tr (gP.tr aE),h5⟩
theorem Vx.print{O:Mo}{E:List Int→Prop}(h:Vx Y R B w x fp O E)(hl:O.pr.1.length≤400000)(k n:Int):aC prog 264 [.pointer (some ⟨O.q,0,none⟩),.int .i64 k,.int .i64 n] w fun r w'=>r=.tuple #[]∧∃fp',Vx Y R B w' x fp' {O with pr:=te O.pr k n} E∧ae fp w w'∧∀k∈fp',k∈fp∨w.heap.size≤k:=by
 obtain⟨d,s,S,W,D,wv,cv,iv,pv,rfl,h,e⟩:=h;refine(aiw ⟨pv,rfl,h.pr⟩ hl k n).mono ?_;rintro r w1⟨rfl,Fj,⟨pv',rfl,l8⟩,ah,uI⟩;have hq:∀k∈O.q::aW pv,∃L e,ak w k L e∧(e=zd∨e=dA):=fun k hk=>by
  rcases List.mem_cons.1 hk with rfl|hk
  ·exact⟨_,_,h.pr.af,.inl rfl⟩
  ·obtain⟨L,hL⟩:=h.pr.row.af k hk;exact⟨L,_,hL,.inr rfl⟩
 have ne:∀{b:Nat} {L:List Value} {e:TypeId},ak w b L e→e≠zd→e≠dA→b∉O.q::aW pv:=fun{b L e} hb h1 h2 hm=>by
  obtain⟨L',e',iT,he⟩:=hq b hm;rcases he with rfl|rfl
  ·exact ak.ne hb iT h1 rfl
  ·exact ak.ne hb iT h2 rfl
 have od:∀k∈aW iv,k∉O.q::aW pv:=fun k hk hm=>by
  rcases List.mem_cons.1 hm with rfl|hm
  ·exact h.inp.ne h.pr.af Lx _ hk (by simp)
  ·exact h.IF k hm hk
 have SB:∀k∈dh d wv,k∉O.q::aW pv:=fun k hk hm=>by
  obtain⟨L',e',iT,he⟩:=hq k hm;rcases he with rfl|rfl
  ·exact t_ h.st.nu iT (by decide) hk
  ·exact t_ h.st.nu iT (by decide) hk
 refine⟨rfl,_,⟨d,s,S,W,D,wv,cv,iv,pv',rfl,⟨⟨h.st.mem.keep ah (ne h.st.mem.af (by decide) (by decide)),ah.af h.st.vT (ne h.st.vT (by decide) (by decide)),h.st.nu.keep ah SB,h.st.tj,h.st.tied,h.st.hm⟩,h.hs,h.gen,l8,ah.af h.af (ne h.af aau aat),?_,h.inp.keep ah od,h.hx,?_,?_⟩,e⟩,?_,?_⟩
 ·exact h.code.keep ah fun c hR=>⟨h.pr.ro c hR,fun hm=>h.pr.nr c hm hR⟩
 ·intro k hk hm;rcases uI k (by simp[hk])with h1|h1
  ·exact od k hm h1
  ·have:=(h.inp.lt k hm).2;omega
 ·intro k hk hR;rcases dU.1 hk with h1|h1|h1|h1|h1|h1
  ·exact h.nr k (dU.2 (.inl h1)) hR
  ·exact h.nr k (dU.2 (.inr (.inl h1))) hR
  ·exact h.nr k (dU.2 (.inr (.inr (.inl h1)))) hR
  ·exact h.nr k (dU.2 (.inr (.inr (.inr (.inl h1))))) hR
  ·exact l8.nr k h1 hR
  ·exact h.nr k (dU.2 (.inr (.inr (.inr (.inr (.inr h1)))))) hR
 ·exact ah.mono fun k hk=>.inl (dU.2 (.inr (.inr (.inr (.inr (.inl hk))))))
 ·intro k hk;rcases dU.1 hk with h1|h1|h1|h1|h1|h1
  ·exact .inl (dU.2 (.inl h1))
  ·exact .inl (dU.2 (.inr (.inl h1)))
  ·exact .inl (dU.2 (.inr (.inr (.inl h1))))
  ·exact .inl (dU.2 (.inr (.inr (.inr (.inl h1)))))
  ·rcases uI k h1 with h2|h2
   ·exact .inl (dU.2 (.inr (.inr (.inr (.inr (.inl h2))))))
   ·exact .inr h2
  ·exact .inl (dU.2 (.inr (.inr (.inr (.inr (.inr h1))))))
theorem afj(h:Vm Y Z R B w x fp M)(ho:M.md.out≤400000)(hl:M.pr.1.length≤400000)(n:Int):aC prog 243 [.pointer (some ⟨x,0,none⟩),.int .i64 n] w fun r w'=>r=.tuple #[]∧∃fp',Vm Y Z R B w' x fp' {M with md:={M.md with out:=M.md.out+1},pr:=ko M.pr M.md.out n}∧ae fp w w'∧∀k∈fp',k∈fp∨w.heap.size≤k:=by
 refine aG 24 func243 ?_;refine au ?_;refine ai _ (aB rfl (h.ptr)) ?_;refine oC (h.load 3 (M.md.out:Nat) fun W hl e=>wu e.out (by decide)) ?_;rintro r w1⟨rfl,cC⟩;rw[cC];refine au ?_;refine ai _ (aB rfl (h.prt)) ?_;refine oC (h.print hl (M.md.out:Nat) n) ?_;rintro r w2⟨rfl,fp',h2,an,mF⟩;rw[show te M.o.pr ((M.md.out:Nat):Int) n=ko M.pr M.md.out n from ait _ _ _]at h2;refine au ?_;refine ai _ (aB rfl (h2.ptr)) ?_;refine nM ((M.md.out+1:Nat):Int) ?_;refine aj (aV (fst:=[]) (cap:=[]) rfl ((h2.put (E':=fun W=>kC Z W {M.md with out:=M.md.out+1}) 3 ((M.md.out+1:Nat):Int) fun W hl e=>by
  rw[show(3:Int)=((3:Nat):Int) from rfl,wC W _ (by decide)];exact akm e hl rfl).mono ?_))
 rintro r w3⟨rfl,h3,aw⟩;refine au ?_;refine bK func243 rfl ⟨rfl,fp',h3,an.trans aw fun k hk=>.inl ?_,mF⟩;rw[List.mem_singleton.1 hk];exact h.gk
theorem ag2(h:Vm Y Z R B w x fp M)(hr:M.md.read≤1000000)(hc:M.md.cells.length≤48){a:Nat}(ha:a<M.md.cells.length):aC prog 244 [.pointer (some ⟨x,0,none⟩),.int .i64 (a:Nat)] w fun r w'=>r=.tuple #[]∧ae [M.m] w w'∧Vm Y Z R B w' x fp {M with md:=if M.md.read<M.inp.length then{M.md with cells:=M.md.cells.set a (M.inp.getD M.md.read 0),read:=M.md.read+1}else{M.md with state:=14}}:=by
 obtain⟨cv,iv,je,kV,iY,tK⟩:=h.bk;have aav:bl w B iv M.inp:=iY;obtain⟨ia,gN,rfl⟩:=aav.form;refine aG 40 func244 ?_;refine au ?_;refine ai _ (aB rfl (h.ptr)) ?_;refine oC (h.load 2 (M.md.read:Nat) fun W hl e=>wu e.read (by decide)) ?_;rintro r w1⟨rfl,cC⟩;rw[cC];refine aL ?_;refine lB je ?_;refine au ?_;by_cases az:M.md.read<M.inp.length
 ·rw[if_pos az];refine aL ?_;refine lB je ?_;refine au ?_;obtain⟨y,hy⟩:∃y,y=M.inp.getD M.md.read 0:=⟨_,rfl⟩;have hyi:M.inp[M.md.read]?=some y:=by
   rw[hy,List.getD_eq_getElem?_getD,List.getElem?_eq_getElem az];rfl
  rw[←hy];obtain⟨g,iF,hv,ek⟩:=aav.at hyi;cases hv;refine ai _ (bJ M.md.read rfl az w) ?_;refine ai _ (aB rfl ((by rw[Nat.zero_add,Nat.mul_one];exact ek))) ?_;refine oC (M6 h hc ha y) ?_;rintro r w2⟨rfl,h2,an⟩;refine au ?_;refine ai _ (aB rfl (h2.ptr)) ?_;refine nM ((M.md.read+1:Nat):Int) ?_;refine aj (aV (fst:=[]) (cap:=[]) rfl ((h2.put (E':=fun W=>kC Z W {M.md with cells:=M.md.cells.set a y,read:=M.md.read+1}) 2 ((M.md.read+1:Nat):Int) fun W hl e=>by
   rw[show(2:Int)=((2:Nat):Int) from rfl,wC W _ (by decide)];exact aiI e hl rfl).mono ?_))
  rintro r w3⟨rfl,h3,aw⟩;refine au ?_;exact bK func244 rfl ⟨rfl,an.tr aw,h3⟩
 ·rw[if_neg az];refine ye ?_;refine oC (N0 h 12 (by decide)) ?_;rintro r w2⟨rfl,h2,an⟩;refine au ?_;exact df func244 (.inr (.inl ⟨rfl,rfl⟩)) ⟨rfl,an,h2⟩
end
theorem ak.inj{w:World}{b:Nat}{L L':List Value}{e e':TypeId}(h:ak w b L e)(h':ak w b L' e'):L=L':=by
 have:=h.symm.trans h';simp only[Option.some.injEq,Obj.cells.injEq]at this;simpa using congrArg Array.toList this.1
theorem Yi:dH prog 4 1=true:=by kernel_rfl
def Dn(Y:Nat→List Int→Prop)(Z:List Int)(R:Nat→Prop)(B:Nat)(w w':World)(x:Nat)(fp:List Nat)(M':Mx):Prop:=∃fp',Vp Y Z R B w' x fp' M'∧ae fp w w'∧∀k∈fp',k∈fp∨w.heap.size≤k
section
variable{Y:Nat→List Int→Prop}{Z:List Int}{R:Nat→Prop}{B:Nat}{w w0 w':World}{x:Nat}{fp:List Nat}{M M':Mx}
theorem Dn.zh(h:Vp Y Z R B w' x fp M')(hm:M.m∈fp)(hk:ae [M.m] w w'):Dn Y Z R B w w' x fp M':=⟨fp,h,hk.mono fun k hk=>.inl (by rw[List.mem_singleton.1 hk];exact hm),fun _ hk=>.inl hk⟩
theorem Dn.of(h:Vm Y Z R B w' x fp M')(hm:M.m∈fp)(hk:ae [M.m] w w'):Dn Y Z R B w w' x fp M':=Dn.zh h.b hm hk
theorem Dn.late(hk:ae [] w0 w)(h:Dn Y Z R B w w' x fp M'):Dn Y Z R B w0 w' x fp M':=by
 obtain⟨fp',h1,h2,h3⟩:=h;exact⟨fp',h1,hk.bG.tr h2,fun k aK=>(h3 k aK).imp id fun h=>Nat.le_trans hk.size h⟩
theorem afk(h:Vm Y Z R B w x fp M)(hl:M.left≤0):aC prog 247 [.pointer (some ⟨x,0,none⟩)] w fun r w'=>r=.int .i64 (-1)∧w'=w:=by
 obtain⟨cv,iv,je,kV,iY,tK⟩:=h.bk;have hl:M.o.left≤0:=hl;refine aG 21 func247 ?_;refine lB je ?_;refine ye ?_;refine au ?_;exact ay func247 rfl ⟨rfl,rfl⟩
theorem ael{cv iv:Value}{m q s:Nat}{left:Int}{torn:Bool}{W:List Int}{D:List Bool}(je:ak w x (uM m cv iv q left torn) zg)(hm:mw w m s W D)(h0:0<left)(h1:left<9223372036854775808):aC prog 247 [.pointer (some ⟨x,0,none⟩)] w fun r w'=>(∃may,r=.int .i64 may∧yt (gD W D) may=false∧BA (gD W D) may=(((gD W D).length:Int)+5-left).toNat)∧ae [] w w':=by
 have hlen:(gD W D).length≤14:=Ja W D 14;refine aG 21 func247 ?_;refine lB je ?_;refine aL ?_;refine au ?_;refine bC (fun w'=>ae [] w w') [] bE ?_;have hS:ae [] w w.drew:=(ae.refl _ _).drew;generalize w.drew=w1 at*;refine tk 0 ?_;refine tk 1 ?_;refine tk 2 ?_;refine aI 3 (.pointer (some ⟨m,0,none⟩)) rfl (fun w9 aq=>aB rfl ((aq.af je (by simp)).cell rfl)) hS ?_;refine tk 7 ?_;refine tk 8 ?_;refine tk 9 ?_;refine aI 10 (.int .i64 left) rfl (fun w9 aq=>aB rfl ((aq.af je (by simp)).cell rfl)) hS ?_;refine dC 4 (VJ (hm.keep hS (by simp))) ?_;rintro r w2⟨gT,an⟩;obtain⟨pa,aob,rfl⟩:=gT.form;refine⟨fun _=>hS.tr an,?_⟩;refine tk 5 ?_;refine uT 6 ((((gD W D).length+5:Nat):Int)) rfl (by decide+kernel) rfl rfl rfl rfl rfl (by simp only[kK];omega) ?_;refine uT 11 ((((gD W D).length:Int)+5-left)) rfl (by decide+kernel) rfl rfl rfl rfl rfl (by simp only[kK];omega) ?_;refine bD 12 _ rfl (fun w=>aiv _ rfl rfl rfl rfl w) ?_;refine tk 13 ?_;refine bm ?_;refine au ?_;refine ay func247 rfl ⟨⟨_,rfl,?_,?_⟩,hS.tr an⟩
 ·unfold yt;rw[decide_eq_false_iff_not];split<;>omega
 ·unfold BA;rw[if_neg (by split<;>omega)];split<;>omega
theorem Vx.sync{O:Mo}{E:List Int→Prop}{Y':Nat→List Int→Prop}(h:Vx Y R B w x fp O E)(hg:O.gen<1000000)(hY:∀d S S2 W,Y d S→E W→W.length=112→mu S2=W→Y' d S2):aC prog 246 [.pointer (some ⟨O.m,0,none⟩),.int .i64 (-1)] w fun r w'=>r=.bool true∧∃fp',Vx Y' R B w' x fp' {O with gen:=O.gen+1} E∧ae fp w w'∧∀k∈fp',k∈fp∨w.heap.size≤k:=by
 obtain⟨d,s,S,W,D,wv,cv,iv,pv,rfl,h,e⟩:=h;have aaw:yt (gD W D) (-1)=true:=agY _;refine(WY h.st.mem h.st.vT h.st.nu (by rw[h.gen];exact hg) (-1)).mono ?_;rintro v w1⟨rfl,oo,bt,ah,wv1,js,uI⟩;rw[aaw]at oo;obtain⟨⟨S2,l9,hN⟩,_⟩:=Ub h.st.tj (Jz W D) (Nv h.st.mem.wl D (by decide));have hn:BA (gD W D) (-1)=(gD W D).length+5:=by
  unfold BA;rw[if_pos (.inl (by decide))]
 rw[hn]at js;rw[l9]at js;have kJ:=hN.all h.st.tied;have ne:∀{b:Nat} {L:List Value} {t:TypeId},ak w b L t→t≠283→(t==258||t==320)=false→b∉O.m::dh d wv:=fun{b L t} hb h1 h2 hm=>by
  rcases List.mem_cons.1 hm with h3|h3
  ·exact ak.ne hb h.st.mem.af h1 h3
  ·exact t_ h.st.nu hb h2 h3
 have IG:∀{v:Value} {l:List Int},bl w B v l→∀k∈aW v,k∉O.m::dh d wv:=fun{v l} hv k hk=>by
  obtain⟨L,hL⟩:=hv.af k hk;exact ne hL (by decide) (by decide)
 have hR:∀c,R c→c<w.heap.size∧c∉O.m::dh d wv:=fun c hR=>⟨h.pr.ro c hR,fun hm=>by
  rcases List.mem_cons.1 hm with h3|h3
  ·exact h.nr c (dU.2 (.inr (.inl h3))) hR
  ·exact h.nr c (dU.2 (.inr (.inr (.inr (.inl h3))))) hR⟩
 refine⟨by rw[aaw],_,⟨d,s,S2,W,_,wv1,cv,iv,pv,rfl,⟨⟨oo,bt,js,hN.tj,aiE _ kJ,h.st.hm⟩,h.hs,by rw[hN.gen,h.gen],h.pr.keep ah ?_,ah.af h.af (ne h.af (by decide) (by decide)),h.code.keep ah hR,h.inp.keep ah (IG h.inp),h.hx,h.IF,?_⟩,e.1,hY d S S2 W e.2 e.1 h.st.mem.wl (Yh h.st.mem.wl kJ)⟩,?_,?_⟩
 ·intro k hm hq;rcases List.mem_cons.1 hq with rfl|hq
  ·exact ne h.pr.af (by decide) (by decide) hm
  ·exact IG h.pr.row k hq hm
 ·intro k hk C1;have az:=h.pr.ro k C1;rcases dU.1 hk with h1|h1|h1|h1|h1|h1
  ·exact h.nr k (dU.2 (.inl h1)) C1
  ·exact h.nr k (dU.2 (.inr (.inl h1))) C1
  ·exact h.nr k (dU.2 (.inr (.inr (.inl h1)))) C1
  ·rcases uI k h1 with h2|h2
   ·exact h.nr k (dU.2 (.inr (.inr (.inr (.inl h2))))) C1
   ·omega
  ·exact h.nr k (dU.2 (.inr (.inr (.inr (.inr (.inl h1)))))) C1
  ·exact h.nr k (dU.2 (.inr (.inr (.inr (.inr (.inr h1)))))) C1
 ·refine ah.mono fun k hk=>.inl ?_;rcases List.mem_cons.1 hk with h3|h3
  ·exact dU.2 (.inr (.inl h3))
  ·exact dU.2 (.inr (.inr (.inr (.inl h3))))
 ·intro k hk;rcases dU.1 hk with h1|h1|h1|h1|h1|h1
  ·exact .inl (dU.2 (.inl h1))
  ·exact .inl (dU.2 (.inr (.inl h1)))
  ·exact .inl (dU.2 (.inr (.inr (.inl h1))))
  ·rcases uI k h1 with h2|h2
   ·exact .inl (dU.2 (.inr (.inr (.inr (.inl h2)))))
   ·exact .inr h2
  ·exact .inl (dU.2 (.inr (.inr (.inr (.inr (.inl h1))))))
  ·exact .inl (dU.2 (.inr (.inr (.inr (.inr (.inr h1))))))
theorem Vx.own{O:Mo}{E:List Int→Prop}{left:Int}{torn:Bool}(h:Vx Y R B w x fp O E)(hk:ae [x] w w')(hb:∀{cv iv:Value},ak w x (uM O.m cv iv O.q O.left O.torn) zg→ak w' x (uM O.m cv iv O.q left torn) zg):Vx Y R B w' x fp {O with left:=left,torn:=torn} E:=by
 obtain⟨d,s,S,W,D,wv,cv,iv,pv,rfl,h,e⟩:=h;have ne:∀{b:Nat} {L:List Value} {t:TypeId},ak w b L t→t≠zg→b∉[x]:=fun{b L t} hb h1 hm=>ak.ne hb h.af h1 (List.mem_singleton.1 hm);have IG:∀{v:Value} {l:List Int},bl w B v l→∀k∈aW v,k∉[x]:=fun{v l} hv=>hv.ne h.af aat;refine⟨d,s,S,W,D,wv,cv,iv,pv,rfl,⟨⟨h.st.mem.keep hk (ne h.st.mem.af (by decide)),hk.af h.st.vT (ne h.st.vT (by decide)),h.st.nu.keep hk fun k hm hx=>?_,h.st.tj,h.st.tied,h.st.hm⟩,h.hs,h.gen,h.pr.keep hk fun k hm hq=>?_,hb h.af,h.code.keep hk fun c hR=>⟨h.pr.ro c hR,fun hm=>?_⟩,h.inp.keep hk (IG h.inp),h.hx,h.IF,h.nr⟩,e⟩
 ·rw[List.mem_singleton.1 hx]at hm;exact t_ h.st.nu h.af (by decide) hm
 ·rcases List.mem_cons.1 hq with rfl|hq
  ·exact ne h.pr.af aau.symm hm
  ·exact IG h.pr.row k hq hm
 ·rw[List.mem_singleton.1 hm]at hR;exact h.nr _ (dU.2 (.inl rfl)) hR
end
def zf(Y:Nat→List Int→Prop)(E:List Int→Prop)(R:Nat→Prop)(B:Nat)(w w':World)(fp:List Nat)(O:Mo):Prop:=
 ∃d S W D wv pv,E W∧Y d S∧W.length=112∧Good S∧Ac S W D∧fE S=O.gen∧
  fL B w' d (gJ ((lu S (gD W D)).take (((gD W D).length:Int)+5-O.left).toNat) (S,[])).1 (gJ ((lu S (gD W D)).take (((gD W D).length:Int)+5-O.left).toNat) (S,[])).2 wv∧
  Pv R B w' O.q pv O.pr∧(∀k∈dh d wv,k∈fp∨w.heap.size≤k)∧∀k∈O.q::aW pv,k∈fp
abbrev Mx.at(M:Mx)(a:Md):Mx:={M with md:={a with next:=a.next+1}}
section
variable{Y:Nat→List Int→Prop}{Z:List Int}{R:Nat→Prop}{B:Nat}{w:World}{x:Nat}{fp:List Nat}{M:Mx}{a:Md}{A K N:Int}
theorem akn(h:Vm Y Z R B w x fp (M.at a))(hs:a.stack.length≤24)(hc:a.cells.length≤48):aC prog 211 [.pointer (some ⟨x,0,none⟩),.agg (iC (1,A,K,N)).toArray] w fun r w'=>r=.tuple #[]∧Dn Y Z R B w w' x fp {M with md:={a with next:=a.next+1,stack:=a.stack++[N]}}:=by
 refine aG 104 func211 ?_;refine au ?_;refine aj (bY (iC (1,A,K,N)) rfl ?_);intro w1 x1 cJ bt ah aM;have mK:=(h.lt _ h.gk).2.1;have jh:x1∉[M.m]:=by
  intro hm;have hm:x1=(M.at a).o.m:=List.mem_singleton.1 hm;omega
 have h1:=Vx.aA h ah;refine lB aM ?_;refine aU ?_;refine oC (zt h1 (by show a.stack.length≤58;omega) hc N) ?_;rintro r w2⟨rfl,h2,an⟩;refine au ?_;exact bK func211 rfl ⟨rfl,Dn.late ah (Dn.zh (M:=M) h2 h.gk an)⟩
theorem ako(h:Vm Y Z R B w x fp (M.at a))(hs:a.stack.length≤24)(hc:a.cells.length≤48)(h0:0≤A)(hA:A<(a.cells.length:Int)):aC prog 211 [.pointer (some ⟨x,0,none⟩),.agg (iC (2,A,K,N)).toArray] w fun r w'=>r=.tuple #[]∧Dn Y Z R B w w' x fp {M with md:={a with next:=a.next+1,stack:=a.stack++[cellAt a.cells A]}}:=by
 refine aG 104 func211 ?_;refine au ?_;refine aj (bY (iC (2,A,K,N)) rfl ?_);intro w1 x1 cJ bt ah aM;have mK:=(h.lt _ h.gk).2.1;have jh:x1∉[M.m]:=by
  intro hm;have hm:x1=(M.at a).o.m:=List.mem_singleton.1 hm;omega
 have h1:=Vx.aA h ah;refine lB aM ?_;obtain⟨k,rfl⟩:∃k:Nat,A=(k:Nat):=⟨A.toNat,by omega⟩;refine aU ?_;refine oC (Ot h1 hc (a:=k) (by show k<a.cells.length;omega)) ?_;rintro r L4⟨rfl,cC⟩;rw[cC];refine oC (zt h1 (by show a.stack.length≤58;omega) hc _) ?_;rintro r w2⟨rfl,h2,an⟩;refine au ?_;exact bK func211 rfl ⟨rfl,Dn.late ah (Dn.zh (M:=M) h2 h.gk an)⟩
theorem akp(h:Vm Y Z R B w x fp (M.at a))(C2:1≤a.stack.length)(hs:a.stack.length≤24)(hc:a.cells.length≤48)(h0:0≤A)(hA:A+K≤(a.cells.length:Int)):aC prog 211 [.pointer (some ⟨x,0,none⟩),.agg (iC (3,A,K,N)).toArray] w fun r w'=>r=.tuple #[]∧Dn Y Z R B w w' x fp {M with md:=if 0≤aR a.stack∧aR a.stack<K then{a with next:=a.next+1,stack:=a.stack.dropLast++[cellAt a.cells (A+aR a.stack)]}else{a with next:=a.next+1,stack:=a.stack.dropLast,state:=13}}:=by
 refine aG 104 func211 ?_;refine au ?_;refine aj (bY (iC (3,A,K,N)) rfl ?_);intro w1 x1 cJ bt ah aM;have mK:=(h.lt _ h.gk).2.1;have jh:x1∉[M.m]:=by
  intro hm;have hm:x1=(M.at a).o.m:=List.mem_singleton.1 hm;omega
 have h1:=Vx.aA h ah;refine lB aM ?_;refine aU ?_;refine ai (.agg (iC (3,A,K,N)).toArray) (bF (iC (3,A,K,N)) rfl (aM.range (by rfl))) ?_;refine oC (adz h1 (3,A,K,N) C2 hs hc h0 hA) ?_;rintro r w2⟨rfl,an,h2⟩;refine au ?_;exact bK func211 rfl ⟨rfl,Dn.late ah (Dn.zh (M:=M) h2 h.gk an)⟩
theorem akq(h:Vm Y Z R B w x fp (M.at a))(Fk:2≤a.stack.length)(hs:a.stack.length≤24)(hc:a.cells.length≤48):aC prog 211 [.pointer (some ⟨x,0,none⟩),.agg (iC (4,A,K,N)).toArray] w fun r w'=>r=.tuple #[]∧Dn Y Z R B w w' x fp {M with md:={a with next:=a.next+1,stack:=a.stack.dropLast.dropLast++[mq 4 (aR a.stack.dropLast) (aR a.stack)]}}:=by
 refine aG 104 func211 ?_;refine au ?_;refine aj (bY (iC (4,A,K,N)) rfl ?_);intro w1 x1 cJ bt ah aM;have mK:=(h.lt _ h.gk).2.1;have jh:x1∉[M.m]:=by
  intro hm;have hm:x1=(M.at a).o.m:=List.mem_singleton.1 hm;omega
 have h1:=Vx.aA h ah;refine lB aM ?_;refine aU ?_;refine oC (p9 h1 (by show 1≤a.stack.length;omega) (by show a.stack.length≤59;omega)) ?_;rintro r w2⟨rfl,h2,an⟩;refine oC (p9 h2 (by show 1≤a.stack.dropLast.length;rw[List.length_dropLast];omega) (by show a.stack.dropLast.length≤59;rw[List.length_dropLast];omega)) ?_;rintro r w3⟨rfl,h3,aw⟩;have bZ:ae [M.m] w1 w3:=an.tr aw;have aQ:=bZ.af aM jh;clear aM;refine lB aQ ?_;refine oC (FF 4 (aR a.stack.dropLast) (aR a.stack) (by decide) w3) ?_;rintro r ML⟨rfl,cC⟩;rw[cC];refine oC (zt h3 (by show a.stack.dropLast.dropLast.length≤58;simp only[List.length_dropLast];omega) hc _) ?_;rintro r w4⟨rfl,h4,ax⟩;refine au ?_;exact bK func211 rfl ⟨rfl,Dn.late ah (Dn.zh (M:=M) h4 h.gk (bZ.tr ax))⟩
theorem akr(h:Vm Y Z R B w x fp (M.at a))(Fk:2≤a.stack.length)(hs:a.stack.length≤24)(hc:a.cells.length≤48):aC prog 211 [.pointer (some ⟨x,0,none⟩),.agg (iC (5,A,K,N)).toArray] w fun r w'=>r=.tuple #[]∧Dn Y Z R B w w' x fp {M with md:={a with next:=a.next+1,stack:=a.stack.dropLast.dropLast++[mq 5 (aR a.stack.dropLast) (aR a.stack)]}}:=by
 refine aG 104 func211 ?_;refine au ?_;refine aj (bY (iC (5,A,K,N)) rfl ?_);intro w1 x1 cJ bt ah aM;have mK:=(h.lt _ h.gk).2.1;have jh:x1∉[M.m]:=by
  intro hm;have hm:x1=(M.at a).o.m:=List.mem_singleton.1 hm;omega
 have h1:=Vx.aA h ah;refine lB aM ?_;refine aU ?_;refine oC (p9 h1 (by show 1≤a.stack.length;omega) (by show a.stack.length≤59;omega)) ?_;rintro r w2⟨rfl,h2,an⟩;refine oC (p9 h2 (by show 1≤a.stack.dropLast.length;rw[List.length_dropLast];omega) (by show a.stack.dropLast.length≤59;rw[List.length_dropLast];omega)) ?_;rintro r w3⟨rfl,h3,aw⟩;have bZ:ae [M.m] w1 w3:=an.tr aw;have aQ:=bZ.af aM jh;clear aM;refine lB aQ ?_;refine oC (FF 5 (aR a.stack.dropLast) (aR a.stack) (by decide) w3) ?_;rintro r ML⟨rfl,cC⟩;rw[cC];refine oC (zt h3 (by show a.stack.dropLast.dropLast.length≤58;simp only[List.length_dropLast];omega) hc _) ?_;rintro r w4⟨rfl,h4,ax⟩;refine au ?_;exact bK func211 rfl ⟨rfl,Dn.late ah (Dn.zh (M:=M) h4 h.gk (bZ.tr ax))⟩
theorem aks(h:Vm Y Z R B w x fp (M.at a))(Fk:2≤a.stack.length)(hs:a.stack.length≤24)(hc:a.cells.length≤48):aC prog 211 [.pointer (some ⟨x,0,none⟩),.agg (iC (6,A,K,N)).toArray] w fun r w'=>r=.tuple #[]∧Dn Y Z R B w w' x fp {M with md:={a with next:=a.next+1,stack:=a.stack.dropLast.dropLast++[mq 6 (aR a.stack.dropLast) (aR a.stack)]}}:=by
 refine aG 104 func211 ?_;refine au ?_;refine aj (bY (iC (6,A,K,N)) rfl ?_);intro w1 x1 cJ bt ah aM;have mK:=(h.lt _ h.gk).2.1;have jh:x1∉[M.m]:=by
  intro hm;have hm:x1=(M.at a).o.m:=List.mem_singleton.1 hm;omega
 have h1:=Vx.aA h ah;refine lB aM ?_;refine aU ?_;refine oC (p9 h1 (by show 1≤a.stack.length;omega) (by show a.stack.length≤59;omega)) ?_;rintro r w2⟨rfl,h2,an⟩;refine oC (p9 h2 (by show 1≤a.stack.dropLast.length;rw[List.length_dropLast];omega) (by show a.stack.dropLast.length≤59;rw[List.length_dropLast];omega)) ?_;rintro r w3⟨rfl,h3,aw⟩;have bZ:ae [M.m] w1 w3:=an.tr aw;have aQ:=bZ.af aM jh;clear aM;refine lB aQ ?_;refine oC (FF 6 (aR a.stack.dropLast) (aR a.stack) (by decide) w3) ?_;rintro r ML⟨rfl,cC⟩;rw[cC];refine oC (zt h3 (by show a.stack.dropLast.dropLast.length≤58;simp only[List.length_dropLast];omega) hc _) ?_;rintro r w4⟨rfl,h4,ax⟩;refine au ?_;exact bK func211 rfl ⟨rfl,Dn.late ah (Dn.zh (M:=M) h4 h.gk (bZ.tr ax))⟩
theorem aiK(h:Vm Y Z R B w x fp (M.at a))(Fk:2≤a.stack.length)(hs:a.stack.length≤24)(hc:a.cells.length≤48):aC prog 211 [.pointer (some ⟨x,0,none⟩),.agg (iC (7,A,K,N)).toArray] w fun r w'=>r=.tuple #[]∧Dn Y Z R B w w' x fp {M with md:={a with next:=a.next+1,stack:=a.stack.dropLast.dropLast++[mq 7 (aR a.stack.dropLast) (aR a.stack)]}}:=by
 refine aG 104 func211 ?_;refine au ?_;refine aj (bY (iC (7,A,K,N)) rfl ?_);intro w1 x1 cJ bt ah aM;have mK:=(h.lt _ h.gk).2.1;have jh:x1∉[M.m]:=by
  intro hm;have hm:x1=(M.at a).o.m:=List.mem_singleton.1 hm;omega
 have h1:=Vx.aA h ah;refine lB aM ?_;refine aU ?_;refine oC (p9 h1 (by show 1≤a.stack.length;omega) (by show a.stack.length≤59;omega)) ?_;rintro r w2⟨rfl,h2,an⟩;refine oC (p9 h2 (by show 1≤a.stack.dropLast.length;rw[List.length_dropLast];omega) (by show a.stack.dropLast.length≤59;rw[List.length_dropLast];omega)) ?_;rintro r w3⟨rfl,h3,aw⟩;have bZ:ae [M.m] w1 w3:=an.tr aw;have aQ:=bZ.af aM jh;clear aM;refine lB aQ ?_;refine oC (FF 7 (aR a.stack.dropLast) (aR a.stack) (by decide) w3) ?_;rintro r ML⟨rfl,cC⟩;rw[cC];refine oC (zt h3 (by show a.stack.dropLast.dropLast.length≤58;simp only[List.length_dropLast];omega) hc _) ?_;rintro r w4⟨rfl,h4,ax⟩;refine au ?_;exact bK func211 rfl ⟨rfl,Dn.late ah (Dn.zh (M:=M) h4 h.gk (bZ.tr ax))⟩
theorem aiL(h:Vm Y Z R B w x fp (M.at a))(Fk:2≤a.stack.length)(hs:a.stack.length≤24)(hc:a.cells.length≤48):aC prog 211 [.pointer (some ⟨x,0,none⟩),.agg (iC (8,A,K,N)).toArray] w fun r w'=>r=.tuple #[]∧Dn Y Z R B w w' x fp {M with md:={a with next:=a.next+1,stack:=a.stack.dropLast.dropLast++[mq 8 (aR a.stack.dropLast) (aR a.stack)]}}:=by
 refine aG 104 func211 ?_;refine au ?_;refine aj (bY (iC (8,A,K,N)) rfl ?_);intro w1 x1 cJ bt ah aM;have mK:=(h.lt _ h.gk).2.1;have jh:x1∉[M.m]:=by
  intro hm;have hm:x1=(M.at a).o.m:=List.mem_singleton.1 hm;omega
 have h1:=Vx.aA h ah;refine lB aM ?_;refine aU ?_;refine oC (p9 h1 (by show 1≤a.stack.length;omega) (by show a.stack.length≤59;omega)) ?_;rintro r w2⟨rfl,h2,an⟩;refine oC (p9 h2 (by show 1≤a.stack.dropLast.length;rw[List.length_dropLast];omega) (by show a.stack.dropLast.length≤59;rw[List.length_dropLast];omega)) ?_;rintro r w3⟨rfl,h3,aw⟩;have bZ:ae [M.m] w1 w3:=an.tr aw;have aQ:=bZ.af aM jh;clear aM;refine lB aQ ?_;refine oC (FF 8 (aR a.stack.dropLast) (aR a.stack) (by decide) w3) ?_;rintro r ML⟨rfl,cC⟩;rw[cC];refine oC (zt h3 (by show a.stack.dropLast.dropLast.length≤58;simp only[List.length_dropLast];omega) hc _) ?_;rintro r w4⟨rfl,h4,ax⟩;refine au ?_;exact bK func211 rfl ⟨rfl,Dn.late ah (Dn.zh (M:=M) h4 h.gk (bZ.tr ax))⟩
theorem akt(h:Vm Y Z R B w x fp (M.at a))(C2:1≤a.stack.length)(hs:a.stack.length≤24)(hc:a.cells.length≤48)(h0:0≤A)(hA:A<(a.cells.length:Int)):aC prog 211 [.pointer (some ⟨x,0,none⟩),.agg (iC (9,A,K,N)).toArray] w fun r w'=>r=.tuple #[]∧Dn Y Z R B w w' x fp {M with md:={a with next:=a.next+1,stack:=a.stack.dropLast,cells:=a.cells.set A.toNat (aR a.stack)}}:=by
 refine aG 104 func211 ?_;refine au ?_;refine aj (bY (iC (9,A,K,N)) rfl ?_);intro w1 x1 cJ bt ah aM;have mK:=(h.lt _ h.gk).2.1;have jh:x1∉[M.m]:=by
  intro hm;have hm:x1=(M.at a).o.m:=List.mem_singleton.1 hm;omega
 have h1:=Vx.aA h ah;refine lB aM ?_;obtain⟨k,rfl⟩:∃k:Nat,A=(k:Nat):=⟨A.toNat,by omega⟩;refine aU ?_;refine bC (fun w'=>ak w' x1 (iC (9,((k:Nat):Int),K,N)) 252) [] bE ?_;have hS:ae [] w1 w1.drew:=(ae.refl _ _).drew;have h1:=Vx.aA h1 hS;have aX:=hS.af aM (by simp);generalize w1.drew=w2 at*;refine tk 0 ?_;refine tk 1 ?_;refine aI 2 (.int .i64 (k:Nat)) rfl (fun w9 aq=>aB rfl (aq.cell rfl)) aX ?_;refine tk 3 ?_;refine dC 4 (p9 h1 C2 (by show a.stack.length≤59;omega)) ?_;rintro r w3⟨rfl,h3,aw⟩;refine⟨fun _=>aw.af aX jh,?_⟩;refine dC 5 (M6 h3 hc (a:=k) (by show k<a.cells.length;omega) (aR a.stack)) ?_;rintro r w4⟨rfl,h4,ax⟩;refine⟨fun _=>ax.af (aw.af aX jh) jh,?_⟩;refine bm ?_;refine au ?_;exact bK func211 rfl ⟨rfl,Dn.late (ah.tr hS) (Dn.of (M:=M) h4 h.gk (aw.tr ax))⟩
theorem aku(h:Vm Y Z R B w x fp (M.at a))(Fk:2≤a.stack.length)(hs:a.stack.length≤24)(hc:a.cells.length≤48)(h0:0≤A)(hA:A+K≤(a.cells.length:Int)):aC prog 211 [.pointer (some ⟨x,0,none⟩),.agg (iC (10,A,K,N)).toArray] w fun r w'=>r=.tuple #[]∧Dn Y Z R B w w' x fp {M with md:=if 0≤aR a.stack.dropLast∧aR a.stack.dropLast<K then{a with next:=a.next+1,stack:=a.stack.dropLast.dropLast,cells:=a.cells.set (A+aR a.stack.dropLast).toNat (aR a.stack)}else{a with next:=a.next+1,stack:=a.stack.dropLast.dropLast,state:=13}}:=by
 refine aG 104 func211 ?_;refine au ?_;refine aj (bY (iC (10,A,K,N)) rfl ?_);intro w1 x1 cJ bt ah aM;have mK:=(h.lt _ h.gk).2.1;have jh:x1∉[M.m]:=by
  intro hm;have hm:x1=(M.at a).o.m:=List.mem_singleton.1 hm;omega
 have h1:=Vx.aA h ah;refine lB aM ?_;refine aU ?_;refine ai (.agg (iC (10,A,K,N)).toArray) (bF (iC (10,A,K,N)) rfl (aM.range (by rfl))) ?_;refine oC (adA h1 (10,A,K,N) Fk hs hc h0 hA) ?_;rintro r w2⟨rfl,an,h2⟩;refine au ?_;exact bK func211 rfl ⟨rfl,Dn.late ah (Dn.of (M:=M) h2 h.gk an)⟩
theorem ag3(h:Vm Y Z R B w x fp (M.at a))(C2:1≤a.stack.length)(hs:a.stack.length≤24)(ho:a.out≤400000)(hl:M.pr.1.length≤400000):aC prog 211 [.pointer (some ⟨x,0,none⟩),.agg (iC (11,A,K,N)).toArray] w fun r w'=>r=.tuple #[]∧Dn Y Z R B w w' x fp {M with md:={a with next:=a.next+1,stack:=a.stack.dropLast,out:=a.out+1},pr:=ko M.pr a.out (aR a.stack)}:=by
 refine aG 104 func211 ?_;refine au ?_;refine aj (bY (iC (11,A,K,N)) rfl ?_);intro w1 x1 cJ bt ah aM;have mK:=(h.lt _ h.gk).2.1;have jh:x1∉[M.m]:=by
  intro hm;have hm:x1=(M.at a).o.m:=List.mem_singleton.1 hm;omega
 have h1:=Vx.aA h ah;refine lB aM ?_;refine aU ?_;refine oC (p9 h1 C2 (by show a.stack.length≤59;omega)) ?_;rintro r w2⟨rfl,h2,an⟩;refine oC (afj h2 ho hl (aR a.stack)) ?_;rintro r w3⟨rfl,fp',h3,aw,ju⟩;refine au ?_;refine bK func211 rfl ⟨rfl,Dn.late ah ⟨fp',Vm.b h3,(an.mono fun k hk=>.inl ?_).tr aw,fun k hk=>(ju k hk).imp id fun h=>Nat.le_trans an.size h⟩⟩;rw[List.mem_singleton.1 hk];exact h.gk
theorem aiM(h:Vm Y Z R B w x fp (M.at a))(hr:a.read≤1000000)(hc:a.cells.length≤48)(h0:0≤A)(hA:A<(a.cells.length:Int)):aC prog 211 [.pointer (some ⟨x,0,none⟩),.agg (iC (12,A,K,N)).toArray] w fun r w'=>r=.tuple #[]∧Dn Y Z R B w w' x fp {M with md:=if a.read<M.inp.length then{a with next:=a.next+1,cells:=a.cells.set A.toNat (M.inp.getD a.read 0),read:=a.read+1}else{a with next:=a.next+1,state:=14}}:=by
 refine aG 104 func211 ?_;refine au ?_;refine aj (bY (iC (12,A,K,N)) rfl ?_);intro w1 x1 cJ bt ah aM;have mK:=(h.lt _ h.gk).2.1;have jh:x1∉[M.m]:=by
  intro hm;have hm:x1=(M.at a).o.m:=List.mem_singleton.1 hm;omega
 have h1:=Vx.aA h ah;refine lB aM ?_;obtain⟨k,rfl⟩:∃k:Nat,A=(k:Nat):=⟨A.toNat,by omega⟩;refine aU ?_;refine oC (ag2 h1 hr hc (a:=k) (by show k<a.cells.length;omega)) ?_;rintro r w2⟨rfl,an,h2⟩;refine au ?_;exact bK func211 rfl ⟨rfl,Dn.late ah (Dn.of (M:=M) h2 h.gk an)⟩
theorem aiN(h:Vm Y Z R B w x fp (M.at a))(C2:1≤a.stack.length)(hs:a.stack.length≤24)(h0:0≤A):aC prog 211 [.pointer (some ⟨x,0,none⟩),.agg (iC (13,A,K,N)).toArray] w fun r w'=>r=.tuple #[]∧Dn Y Z R B w w' x fp {M with md:={a with next:=if aR a.stack=0 then A.toNat else a.next+1,stack:=a.stack.dropLast}}:=by
 refine aG 104 func211 ?_;refine au ?_;refine aj (bY (iC (13,A,K,N)) rfl ?_);intro w1 x1 cJ bt ah aM;have mK:=(h.lt _ h.gk).2.1;have jh:x1∉[M.m]:=by
  intro hm;have hm:x1=(M.at a).o.m:=List.mem_singleton.1 hm;omega
 have h1:=Vx.aA h ah;refine lB aM ?_;obtain⟨k,rfl⟩:∃k:Nat,A=(k:Nat):=⟨A.toNat,by omega⟩;refine aU ?_;refine oC (p9 h1 C2 (by show a.stack.length≤59;omega)) ?_;rintro r w2⟨rfl,h2,an⟩;have aX:=an.af aM jh;clear aM;by_cases ht:aR a.stack=0
 ·rw[if_pos ht];refine ye ?_;refine lB aX ?_;refine oC (VL h2 k) ?_;rintro r w3⟨rfl,h3,aw⟩;refine au ?_;exact bK func211 rfl ⟨rfl,Dn.late ah (Dn.of (M:=M) h3 h.gk (an.tr aw))⟩
 ·rw[if_neg ht];refine aL ?_;refine au ?_;exact bK func211 rfl ⟨rfl,Dn.late ah (Dn.of (M:=M) h2 h.gk an)⟩
theorem aiO(h:Vm Y Z R B w x fp (M.at a))(h0:0≤A):aC prog 211 [.pointer (some ⟨x,0,none⟩),.agg (iC (14,A,K,N)).toArray] w fun r w'=>r=.tuple #[]∧Dn Y Z R B w w' x fp {M with md:={a with next:=A.toNat}}:=by
 refine aG 104 func211 ?_;refine au ?_;refine aj (bY (iC (14,A,K,N)) rfl ?_);intro w1 x1 cJ bt ah aM;have mK:=(h.lt _ h.gk).2.1;have jh:x1∉[M.m]:=by
  intro hm;have hm:x1=(M.at a).o.m:=List.mem_singleton.1 hm;omega
 have h1:=Vx.aA h ah;refine lB aM ?_;obtain⟨k,rfl⟩:∃k:Nat,A=(k:Nat):=⟨A.toNat,by omega⟩;refine aU ?_;refine oC (VL h1 k) ?_;rintro r w2⟨rfl,h2,an⟩;refine au ?_;exact bK func211 rfl ⟨rfl,Dn.late ah (Dn.of (M:=M) h2 h.gk an)⟩
theorem aiP(h:Vm Y Z R B w x fp (M.at a)):aC prog 211 [.pointer (some ⟨x,0,none⟩),.agg (iC (16,A,K,N)).toArray] w fun r w'=>r=.tuple #[]∧Dn Y Z R B w w' x fp {M with md:={a with next:=a.next+1,state:=1}}:=by
 refine aG 104 func211 ?_;refine au ?_;refine aj (bY (iC (16,A,K,N)) rfl ?_);intro w1 x1 cJ bt ah aM;have mK:=(h.lt _ h.gk).2.1;have jh:x1∉[M.m]:=by
  intro hm;have hm:x1=(M.at a).o.m:=List.mem_singleton.1 hm;omega
 have h1:=Vx.aA h ah;refine lB aM ?_;refine aU ?_;refine ai _ (aB rfl (h1.ptr)) ?_;refine aj (aV (fst:=[]) (cap:=[]) rfl ((h1.put (E':=fun W=>kC Z W {a with next:=a.next+1,state:=1}) 4 1 fun W hl e=>by
  rw[show(4:Int)=((4:Nat):Int) from rfl,wC W _ (by decide)];exact VK e hl rfl).mono ?_))
 rintro r w2⟨rfl,h2,an⟩;refine au ?_;exact bK func211 rfl ⟨rfl,Dn.late ah (Dn.of (M:=M) h2 h.gk an)⟩
theorem afl{Y':Nat→List Int→Prop}(h:Vm Y Z R B w x fp (M.at a))(hY:∀d S S2 W,Y d S→kC Z W (M.at a).md→W.length=112→mu S2=W→Y' d S2)(hl:M.left=0)(ht:M.torn=false)(hg:M.gen<1000000):aC prog 211 [.pointer (some ⟨x,0,none⟩),.agg (iC (15,A,K,N)).toArray] w fun r w'=>r=.tuple #[]∧Dn Y' Z R B w w' x fp {M with md:={a with next:=a.next+1},gen:=M.gen+1}:=by
 refine aG 104 func211 ?_;refine au ?_;refine aj (bY (iC (15,A,K,N)) rfl ?_);intro w1 x1 cJ bt ah aM;have mK:=(h.lt _ h.gk).2.1;have jh:x1∉[M.m]:=by
  intro hm;have hm:x1=(M.at a).o.m:=List.mem_singleton.1 hm;omega
 have h1:=Vx.aA h ah;refine lB aM ?_;refine aU ?_;refine bC (fun w'=>w'.cell? ⟨x,0,none⟩=some (.pointer (some ⟨M.m,0,none⟩))) [11] bE ?_;have hS:ae [] w1 w1.drew:=(ae.refl _ _).drew;have h1:=Vx.aA h1 hS;generalize w1.drew=w2 at*;refine tk 0 ?_;refine tk 1 ?_;refine tk 2 ?_;refine tk 3 ?_;refine aI 4 (.pointer (some ⟨M.m,0,none⟩)) rfl (fun w9 aq=>aB rfl aq) h1.ptr ?_;refine tk 5 ?_;refine dC 6 (afk h1 (by show M.left≤0;omega)) ?_;rintro r w2'⟨rfl,cC⟩;rw[cC];refine⟨fun _=>h1.ptr,?_⟩;refine dC 7 (h1.sync hg hY) ?_;rintro r w3⟨rfl,fp3,h3,aw,ju⟩;refine⟨fun _=>h3.ptr,?_⟩;refine tk 8 ?_;refine tk 9 ?_;refine tk 10 ?_;obtain⟨cv,iv,je,_,_,_⟩:=h3.bk;refine a8 11 rfl (aH [.bool false] rfl Yi je (by simp[uM]) (nL rfl) ?_);intro w4 cz ax a_;refine⟨fun h=>absurd (by simp) h,?_⟩;refine bm ?_;have h4:=h3.own (left:=M.left) (torn:=M.torn) ax fun{cv' vG} QQ=>by
  rw[ht];have e:=ak.inj je QQ;simp only[uM,List.cons.injEq]at e;rw[←e.2.1,←e.2.2.1];exact a_
 refine au ?_;refine bK func211 rfl ⟨rfl,Dn.late (ah.tr hS) ⟨fp3,Vx.mono h4 (fun _ _ e=>e.b),aw.trans ax fun k hk=>.inl ?_,ju⟩⟩;rw[List.mem_singleton.1 hk];exact h.in
theorem aiQ(h:Vm Y Z R B w x fp (M.at a))(vu:0<M.left)(r_:M.left<9223372036854775808)(hg:M.gen<1000000):aC prog 211 [.pointer (some ⟨x,0,none⟩),.agg (iC (15,A,K,N)).toArray] w fun r w'=>r=.tuple #[]∧zf Y (fun W=>kC Z W (M.at a).md) R B w w' fp M.o∧ae fp w w':=by
 refine aG 104 func211 ?_;refine au ?_;refine aj (bY (iC (15,A,K,N)) rfl ?_);intro w1 x1 cJ bt ah aM;have mK:=(h.lt _ h.gk).2.1;have jh:x1∉[M.m]:=by
  intro hm;have hm:x1=(M.at a).o.m:=List.mem_singleton.1 hm;omega
 have h1:=Vx.aA h ah;refine lB aM ?_;refine aU ?_;refine bC (fun w'=>w'.cell? ⟨x,0,none⟩=some (.pointer (some ⟨M.m,0,none⟩))) [11] bE ?_;have hS:ae [] w1 w1.drew:=(ae.refl _ _).drew;have h1:=Vx.aA h1 hS;generalize w1.drew=w2 at*;refine tk 0 ?_;refine tk 1 ?_;refine tk 2 ?_;refine tk 3 ?_;refine aI 4 (.pointer (some ⟨M.m,0,none⟩)) rfl (fun w9 aq=>aB rfl aq) h1.ptr ?_;refine tk 5 ?_;obtain⟨d,s,S,W,D,wv,cv,iv,pv,rfl,hv,he,hY⟩:=h1;have je:=hv.af;refine dC 6 (ael je hv.st.mem vu r_) ?_;rintro r w3⟨⟨may,rfl,y8,MM⟩,aw⟩;have aQ:=aw.af je (by simp);refine⟨fun _=>aQ.cell rfl,?_⟩;refine dC 7 (WY (hv.st.mem.keep aw (by simp)) (aw.af hv.st.vT (by simp)) (hv.st.nu.keep aw (by simp)) (by rw[hv.gen];exact hg) may) ?_;rintro r w4⟨rfl,_,_,ax,SC,qB,nq⟩;rw[MM]at qB;rw[y8];have a_:=ax.af aQ fun hm=>by
  rcases List.mem_cons.1 hm with h3|h3
  ·exact ak.ne je hv.st.mem.af (by decide) h3
  ·exact t_ hv.st.nu je (by decide) h3
 refine⟨fun _=>a_.cell rfl,?_⟩;refine tk 8 ?_;refine tk 9 ?_;refine tk 10 ?_;refine a8 11 rfl (aH [.bool true] rfl Yi a_ (by simp[uM]) (nL rfl) ?_);intro w5 iV aE cr;refine⟨fun h=>absurd (by simp) h,?_⟩;refine bm ?_;refine au ?_;have dE:∀k∈M.m::dh d wv,k∈vS x d s M.m wv M.q pv iv:=fun k hk=>by
  rcases List.mem_cons.1 hk with h3|h3
  ·exact dU.2 (.inr (.inl h3))
  ·exact dU.2 (.inr (.inr (.inr (.inl h3))))
 have oh:Pv R B w4 M.q pv M.pr:=(hv.pr.keep aw (fun k hm=>by cases hm)).keep ax fun k hm hq=>by
  rcases List.mem_cons.1 hm with h3|h3
  ·rcases List.mem_cons.1 hq with h5|h5
   ·exact ak.ne hv.st.mem.af hv.pr.af (by decide) (h3.symm.trans h5)
   ·exact hv.pr.row.ne hv.st.mem.af (by decide) k h5 (by rw[h3];simp)
  ·rcases List.mem_cons.1 hq with h5|h5
   ·rw[h5]at h3;exact t_ hv.st.nu hv.pr.af (by decide) h3
   ·obtain⟨L,hL⟩:=hv.pr.row.af k h5;exact t_ hv.st.nu hL (by decide) h3
 have lp:Pv R B w5 M.q pv M.pr:=oh.keep aE fun k hm hq=>by
  rw[List.mem_singleton.1 hm]at hq;rcases List.mem_cons.1 hq with h5|h5
  ·exact ak.ne hv.af hv.pr.af (by decide) h5
  ·exact hv.pr.row.ne hv.af (by decide) _ h5 (by simp)
 have pT:=qB.keep aE fun k hm hx=>by
  rw[List.mem_singleton.1 hx]at hm;exact t_ qB a_ (by decide) hm
 have yw:ae (vS x d s M.m wv M.q pv iv) w2 w5:=((aw.bG.trans ax fun k hk=>.inl (dE k hk)).trans aE fun k hk=>.inl (by rw[List.mem_singleton.1 hk];exact dU.2 (.inl rfl)));refine bK func211 rfl ⟨rfl,⟨d,S,W,D,SC,pv,he,hY,hv.st.mem.wl,hv.st.tj,hv.st.tied,hv.gen,pT,lp,fun k hk=>?_,fun k hk=>dU.2 (.inr (.inr (.inr (.inr (.inl hk)))))⟩,(ah.tr hS).bG.tr yw⟩;rcases nq k hk with h3|h3
 ·exact .inl (dE k (List.mem_cons_of_mem _ h3))
 ·exact .inr (Nat.le_trans (ah.tr (hS.tr aw)).size h3)
end
section
variable{Y:Nat→List Int→Prop}{Z:List Int}{R:Nat→Prop}{B:Nat}{w w':World}{x:Nat}{fp:List Nat}{M M':Mx}
theorem Dn.seq{w1:World}(hm:M.m∈fp)(hk:ae [M.m] w w1)(h:Dn Y Z R B w1 w' x fp M'):Dn Y Z R B w w' x fp M':=by
 obtain⟨fp',h1,h2,h3⟩:=h;exact⟨fp',h1,(hk.mono fun k hk=>.inl (by rw[List.mem_singleton.1 hk];exact hm)).tr h2,fun k aK=>(h3 k aK).imp id fun h=>Nat.le_trans hk.size h⟩
theorem W4(h:Vm Y Z R B w x fp M)(hs:M.md.state=0){i:Is}(hi:M.L[M.md.next]?=some i)(hL:M.L.length≤1000000){K:World→Prop} (H7:∀w1,Vm Y Z R B w1 x fp (M.at M.md)→ae [M.m] w w1→aC prog 211 [.pointer (some ⟨x,0,none⟩),.agg (iC i).toArray] w1 fun r w'=>r=.tuple #[]∧K w'):aC prog 179 [.pointer (some ⟨x,0,none⟩)] w fun r w'=>r=.bool true∧K w':=by
 have hn:M.md.next<M.L.length:=(List.getElem?_eq_some_iff.1 hi).1;have mK:=(h.lt _ h.gk).2.1;refine aG 23 func179 ?_;refine oC (Oq h) ?_;rintro r w0⟨rfl,cC⟩;rw[cC,hs];refine oC (UO h hi) ?_;rintro r w1⟨rfl,ah⟩;refine aj (bO _ rfl W1 ?_);intro w2 x2 gi cE an aX;refine aj (aH (iC i) rfl W3 aX (by simp[iC]) (nJ _) ?_);intro w3 cw aw aQ;rw[bs (by rfl)]at aQ;have bn:ae [] w w3:=(ah.tr an).aO aw (by have:=ah.size;omega);have jh:x2∉[M.m]:=by
  intro hm;have hm:x2=M.o.m:=List.mem_singleton.1 hm;have:=ah.size;omega
 have h3:=Vx.aA h bn;refine au ?_;refine bC (fun w'=>w'.cell? ⟨x,0,none⟩=some (.pointer (some ⟨M.m,0,none⟩))) [] bE ?_;have hS:ae [] w3 w3.drew:=(ae.refl _ _).drew;have h4:=Vx.aA h3 hS;have a_:=hS.af aQ (by simp);generalize w3.drew=w4 at*;refine tk 0 ?_;refine tk 1 ?_;refine tk 2 ?_;refine aI 3 (.pointer (some ⟨M.m,0,none⟩)) rfl (fun w9 aq=>aB rfl aq) h4.ptr ?_;refine tk 4 ?_;refine tk 5 ?_;refine tk 6 ?_;refine aI 7 (.pointer (some ⟨M.m,0,none⟩)) rfl (fun w9 aq=>aB rfl aq) h4.ptr ?_;refine dC 8 (h4.load 0 (M.md.next:Nat) fun W hl e=>wu e.next (by decide)) ?_;rintro r w4'⟨rfl,cC⟩;rw[cC];refine⟨fun _=>h4.ptr,?_⟩;refine uT 9 (((M.md.next+1:Nat):Int)) rfl (by decide+kernel) rfl rfl rfl rfl rfl (by simp only[kK];omega) ?_;refine a8 10 rfl (aV (fst:=[]) (cap:=[]) rfl ((h4.put (E':=fun W=>kC Z W {M.md with next:=M.md.next+1}) 0 ((M.md.next+1:Nat):Int) fun W hl e=>by
  rw[show(0:Int)=((0:Nat):Int) from rfl,wC W _ (by decide)];exact W0 e hl _).mono ?_))
 rintro r w5⟨rfl,h5,aE⟩;refine⟨fun _=>h5.ptr,?_⟩;refine bm ?_;have cr:=aE.af a_ jh;refine au ?_;refine ai (.agg (iC i).toArray) (bF (iC i) rfl (cr.range (by rfl))) ?_;refine oC (H7 w5 h5 ((bn.tr hS).bG.tr aE)) ?_;rintro r w6⟨rfl,hK⟩;refine au ?_;exact ay func179 rfl ⟨rfl,hK⟩
theorem agK(h:Vm Y Z R B w x fp M)(hs:M.md.state≠0):aC prog 179 [.pointer (some ⟨x,0,none⟩)] w fun r w'=>r=.bool false∧ae [] w w':=by
 refine aG 23 func179 ?_;refine oC (Oq h) ?_;rintro r w0⟨rfl,cC⟩;rw[cC,show decide (M.md.state=0)=false by simp[hs]];refine au ?_;exact ay func179 rfl ⟨rfl,ae.refl _ _⟩
theorem aiR(inp:List Int)(A K N:Int)(a:Md)(p:Pr):bu inp (3,A,K,N) a p=(if 0≤aR a.stack∧aR a.stack<K then{a with next:=a.next+1,stack:=a.stack.dropLast++[cellAt a.cells (A+aR a.stack)]}else{a with next:=a.next+1,stack:=a.stack.dropLast,state:=13},p):=by
 have e:bu inp (3,A,K,N) a p=(if 0≤aR a.stack∧aR a.stack<K then({a with next:=a.next+1,stack:=a.stack.dropLast++[cellAt a.cells (A+aR a.stack)]},p)else({a with next:=a.next+1,stack:=a.stack.dropLast,state:=13},p)):=rfl;rw[e];split<;>rfl
theorem aiS(inp:List Int)(A K N:Int)(a:Md)(p:Pr):bu inp (10,A,K,N) a p=(if 0≤aR a.stack.dropLast∧aR a.stack.dropLast<K then{a with next:=a.next+1,stack:=a.stack.dropLast.dropLast,cells:=a.cells.set (A+aR a.stack.dropLast).toNat (aR a.stack)}else{a with next:=a.next+1,stack:=a.stack.dropLast.dropLast,state:=13},p):=by
 have e:bu inp (10,A,K,N) a p=(if 0≤aR a.stack.dropLast∧aR a.stack.dropLast<K then({a with next:=a.next+1,stack:=a.stack.dropLast.dropLast,cells:=a.cells.set (A+aR a.stack.dropLast).toNat (aR a.stack)},p)else({a with next:=a.next+1,stack:=a.stack.dropLast.dropLast,state:=13},p)):=rfl;rw[e];split<;>rfl
theorem ag4(inp:List Int)(A K N:Int)(a:Md)(p:Pr):bu inp (12,A,K,N) a p=(if a.read<inp.length then{a with next:=a.next+1,cells:=a.cells.set A.toNat (inp.getD a.read 0),read:=a.read+1}else{a with next:=a.next+1,state:=14},p):=by
 have e:bu inp (12,A,K,N) a p=(if a.read<inp.length then({a with next:=a.next+1,cells:=a.cells.set A.toNat (inp.getD a.read 0),read:=a.read+1},p)else({a with next:=a.next+1,state:=14},p)):=rfl;rw[e];split<;>rfl
theorem Vx.y{O:Mo}{E:List Int→Prop}{Y':Nat→List Int→Prop}(h:Vx Y R B w x fp O E)(hy:∀d S,Y d S→Y' d S):Vx Y' R B w x fp O E:=by
 obtain⟨d,s,S,W,D,wv,cv,iv,pv,rfl,h,e,y⟩:=h;exact⟨d,s,S,W,D,wv,cv,iv,pv,rfl,h,e,hy d S y⟩
theorem ag5{c i:Nat}{Q:List Is}{Y':Nat→List Int→Prop}(h:Vm Y Z R B w x fp M)(ho:Wo c Q M i)(hi:i≤400000)(hs:M.md.state=0)(hl:eG M.L M.md=true→M.left=0∧M.torn=false) (hYc:eG M.L M.md=true→∀d S S2 W,Y d S→kC Z W (M.at M.md).md→W.length=112→mu S2=W→Y' d S2)(hYn:eG M.L M.md=false→∀d S,Y d S→Y' d S):aC prog 179 [.pointer (some ⟨x,0,none⟩)] w fun r w'=>r=.bool true∧∃fp',Vp Y' Z R B w' x fp' (M.go (if eG M.L M.md then M.gen+1 else M.gen))∧ae fp w w'∧∀k∈fp',k∈fp∨w.heap.size≤k:=by
 have hn:=ho.fit.next hs;have mX:=ho.fit.rk hs;have aZ:=mX.le (by decide);have lI:=ho.fit.cells;have u3:=ho.MG;have hc:M.md.cells.length≤48:=by omega
 have hlen:=ho.Fg.len;have hou:=ho.fit.out;have HN:=ho.out;have Ak:=ho.read;have SD:=ho.aao;have RY:=ho.gen;have hL:M.L.length≤1000000:=by rw[ho.code];simp;omega
 obtain⟨y,hy,Rz⟩:=OA ho.Fg.rk hn mX;rw[←ho.code]at hy;have eT:M.L.getD M.md.next (0,0,0,0)=y:=by rw[List.getD_eq_getElem?_getD,hy];rfl
 have m_:∀g,M.go g={M with md:=(bu M.inp y M.md M.pr).1,pr:=(bu M.inp y M.md M.pr).2,gen:=g}:=fun g=>by
  unfold Mx.go eD;rw[if_pos hs,eT]
 have jK:eG M.L M.md=decide (y.1=15):=by
  unfold eG;rw[eT,hs];simp
 have fin:∀{w1 w':World} {r:Value},ae [M.m] w w1→Dn Y' Z R B w1 w' x fp (M.go (if eG M.L M.md then M.gen+1 else M.gen))→∃fp',Vp Y' Z R B w' x fp' (M.go (if eG M.L M.md then M.gen+1 else M.gen))∧ae fp w w'∧∀k∈fp',k∈fp∨w.heap.size≤k:=fun{w1 w' r} hk hd=>Dn.seq h.gk hk hd;have same:∀{w1 w':World} {r:Value},eG M.L M.md=false→ae [M.m] w w1→r=.tuple #[]∧Dn Y Z R B w1 w' x fp (M.go M.gen)→r=.tuple #[]∧∃fp',Vp Y' Z R B w' x fp' (M.go (if eG M.L M.md then M.gen+1 else M.gen))∧ae fp w w'∧∀k∈fp',k∈fp∨w.heap.size≤k:=fun{w1 w' r} iJ hk hd=>⟨hd.1,fin (r:=r) hk (by
  rw[iJ,if_neg (by decide)];obtain⟨fp',h2,h3⟩:=hd.2;exact⟨fp',Vx.y h2 (hYn iJ),h3⟩)⟩
 refine W4 h hs hy hL fun w1 h1 ah=>?_;rcases Rz with⟨az,Ai,cT,_⟩|⟨az,rfl,bX⟩
 ·have P9:=ho.Fg.ops y (List.mem_of_getElem? Ai);have Cz:=ho.Fg.jmp y (List.mem_of_getElem? Ai);obtain⟨op,A,K,N⟩:=y;obtain⟨f1,f2,f3,f4,f5,f6⟩:=cT;simp only at f1 f2 f3 f4 f5 f6 P9;obtain⟨n1,n2,n3,n4,n5,n6⟩:=N7 op;have hA:op=13∨op=14→0≤A:=fun hj=>by
   obtain⟨kk,h1,_⟩:=Cz hj;simp only at h1;omega
  clear Cz;have mQ:op=1∨op=2∨op=3∨op=4∨op=5∨op=6∨op=7∨op=8∨op=9∨op=10∨op=11∨op=12∨op=13∨op=14∨op=15:=by omega
  rcases mQ with rfl|rfl|rfl|rfl|rfl|rfl|rfl|rfl|rfl|rfl|rfl|rfl|rfl|rfl|rfl
  ·refine(akn h1 aZ hc).mono fun r w' hd=>same (jK.trans (by rfl)) ah ?_;rw[m_];exact hd
  ·obtain⟨g1,g2⟩:=f5 (.inl rfl);refine(ako h1 aZ hc g1 (by omega)).mono fun r w' hd=>same (jK.trans (by rfl)) ah ?_;rw[m_];exact hd
  ·obtain⟨g1,g2,g3⟩:=f6 (.inl rfl);have:=n2 rfl;refine(akp h1 (by omega) aZ hc g1 (by omega)).mono fun r w' hd=>same (jK.trans (by rfl)) ah ?_;rw[m_,aiR];exact hd
  ·have:=n3 (by omega);refine(akq h1 (by omega) aZ hc).mono fun r w' hd=>same (jK.trans (by rfl)) ah ?_;rw[m_];exact hd
  ·have:=n3 (by omega);refine(akr h1 (by omega) aZ hc).mono fun r w' hd=>same (jK.trans (by rfl)) ah ?_;rw[m_];exact hd
  ·have:=n3 (by omega);refine(aks h1 (by omega) aZ hc).mono fun r w' hd=>same (jK.trans (by rfl)) ah ?_;rw[m_];exact hd
  ·have:=n3 (by omega);refine(aiK h1 (by omega) aZ hc).mono fun r w' hd=>same (jK.trans (by rfl)) ah ?_;rw[m_];exact hd
  ·have:=n3 (by omega);refine(aiL h1 (by omega) aZ hc).mono fun r w' hd=>same (jK.trans (by rfl)) ah ?_;rw[m_];exact hd
  ·obtain⟨g1,g2⟩:=f5 (.inr (.inl rfl));have:=n4 (by omega);refine(akt h1 (by omega) aZ hc g1 (by omega)).mono fun r w' hd=>same (jK.trans (by rfl)) ah ?_;rw[m_];exact hd
  ·obtain⟨g1,g2,g3⟩:=f6 (.inr rfl);have:=n5 rfl;refine(aku h1 (by omega) aZ hc g1 (by omega)).mono fun r w' hd=>same (jK.trans (by rfl)) ah ?_;rw[m_,aiS];exact hd
  ·have:=n4 (by omega);refine(ag3 h1 (by omega) aZ (by omega) (by omega)).mono fun r w' hd=>same (jK.trans (by rfl)) ah ?_;rw[m_];exact hd
  ·obtain⟨g1,g2⟩:=f5 (.inr (.inr rfl));refine(aiM h1 (by omega) hc g1 (by omega)).mono fun r w' hd=>same (jK.trans (by rfl)) ah ?_;rw[m_,ag4];exact hd
  ·have:=n4 (by omega);refine(aiN h1 (by omega) aZ (hA (.inl rfl))).mono fun r w' hd=>same (jK.trans (by rfl)) ah ?_;rw[m_];exact hd
  ·refine(aiO h1 (hA (.inr rfl))).mono fun r w' hd=>same (jK.trans (by rfl)) ah ?_;rw[m_];exact hd
  ·have gQ:eG M.L M.md=true:=jK.trans (by rfl);obtain⟨l0,l1⟩:=hl gQ;refine(afl h1 (hYc gQ) l0 l1 (by omega)).mono fun r w' hd=>⟨hd.1,fin (r:=r) ah ?_⟩;rw[gQ,if_pos rfl,m_];exact hd.2
 ·refine(aiP (A:=0) (K:=0) (N:=0) h1).mono fun r w' hd=>same (jK.trans (by rfl)) ah ?_;rw[m_];exact hd
theorem aff{c i:Nat}{Q:List Is}(h:Vm Y Z R B w x fp M)(ho:Wo c Q M i)(hi:i≤400000)(gQ:eG M.L M.md=true)(vu:0<M.left)(r_:M.left<9223372036854775808):aC prog 179 [.pointer (some ⟨x,0,none⟩)] w fun r w'=>r=.bool true∧zf Y (fun W=>kC Z W (M.at M.md).md) R B w w' fp M.o∧ae fp w w':=by
 unfold eG at gQ;simp only[Bool.and_eq_true,decide_eq_true_eq]at gQ;obtain⟨hs,ng⟩:=gQ;have hn:=ho.fit.next hs;have hlen:=ho.Fg.len;have RY:=ho.gen;have hL:M.L.length≤1000000:=by rw[ho.code];simp;omega
 have uw:M.md.next<M.L.length:=by rw[ho.code];simp;omega
 obtain⟨y,SE⟩:∃y,y=M.L[M.md.next]:=⟨_,rfl⟩;have hy:M.L[M.md.next]?=some y:=by rw[List.getElem?_eq_getElem uw,SE]
 have eT:M.L.getD M.md.next (0,0,0,0)=y:=by rw[List.getD_eq_getElem?_getD,hy];rfl
 rw[eT]at ng;obtain⟨op,A,K,N⟩:=y;simp only at ng;subst ng;refine W4 h hs hy hL fun w1 h1 ah=>?_;refine(aiQ h1 vu r_ (by omega)).mono ?_;rintro r w'⟨rfl,⟨d,S,W,D,wv,pv,t1,t2,t3,t4,t5,t6,t7,t8,t9,t10⟩,an⟩;exact⟨rfl,⟨d,S,W,D,wv,pv,t1,t2,t3,t4,t5,t6,t7,t8,fun k hk=>(t9 k hk).imp id fun h=>Nat.le_trans ah.size h,t10⟩,(ah.mono fun k hk=>.inl (by rw[List.mem_singleton.1 hk];exact h.gk)).tr an⟩
theorem akv:dH prog 3 1=true:=by kernel_rfl
theorem agL(h:Vm Y Z R B w x fp M)(n:Int):aC prog 181 [.pointer (some ⟨x,0,none⟩),.int .i64 n] w fun r w'=>r=.tuple #[]∧Vm Y Z R B w' x fp {M with left:=n}∧ae fp w w':=by
 obtain⟨cv,iv,je,_,_,_⟩:=h.bk;refine aG 8 func181 ?_;refine au ?_;refine aj (aH [.int .i64 n] rfl akv je (by simp[uM]) (nL rfl) ?_);intro w1 bt ah aM;have h2:=Vx.own (left:=n) (torn:=M.torn) h ah fun{cv' vG} QQ=>by
  have e:=ak.inj je QQ;simp only[uM,List.cons.injEq]at e;rw[←e.2.1,←e.2.2.1];exact aM
 refine au ?_;exact bK func181 rfl ⟨rfl,h2,ah.mono fun k hk=>.inl (by rw[List.mem_singleton.1 hk];exact h.in)⟩
theorem adw{c i:Nat}{Q:List Is}(h:Vm Y Z R B w x fp M)(ho:Wo c Q M i):aC prog 180 [.pointer (some ⟨x,0,none⟩)] w fun r w'=>r=.bool (eG M.L M.md)∧ae [] w w':=by
 refine aG 11 func180 ?_;unfold eG;refine oC (Oq h) ?_;rintro r w0⟨rfl,cC⟩;rw[cC];by_cases hs:M.md.state=0
 ·have hn:=ho.fit.next hs;have uw:M.md.next<M.L.length:=by rw[ho.code];simp;omega
  obtain⟨y,SE⟩:∃y,y=M.L[M.md.next]:=⟨_,rfl⟩;have hy:M.L[M.md.next]?=some y:=by rw[List.getElem?_eq_getElem uw,SE]
  have eT:M.L.getD M.md.next (0,0,0,0)=y:=by rw[List.getD_eq_getElem?_getD,hy];rfl
  rw[eT,show decide (M.md.state=0)=true by simp[hs]];refine oC (UO h hy) ?_;rintro r w1⟨rfl,ah⟩;refine ai (.int .i64 y.1) (Nq 0 (iC y) rfl rfl (by decide+kernel) rfl w1) ?_;by_cases ng:y.1=15
  ·refine ye ?_;refine au ?_;exact ay func180 rfl ⟨by simp[ng],ah⟩
  ·refine aL ?_;refine au ?_;exact ay func180 rfl ⟨by simp[ng],ah⟩
 ·rw[show decide (M.md.state=0)=false by simp[hs]];refine au ?_;exact ay func180 rfl ⟨by simp,ae.refl _ _⟩
theorem aiT(m q:Nat)(ca ia:Option Addr)(cn cc i1 ic:Nat):prog.built zg [(0,.pointer (some ⟨m,0,none⟩)),(1,.slice ca cn cc),(2,.slice ia i1 ic),(3,.pointer (some ⟨q,0,none⟩))]=some (uM m (.slice ca cn cc) (.slice ia i1 ic) q 0 false).toArray:=by kernel_rfl
theorem alc{d s m q:Nat}{S W:List Int}{D:List Bool}{wv cv iv:Value}{fq:List Nat}{p:Pr}{md:Md}{L:List Is}{inp:List Int}(aZ:St B w d s m S W D wv)(hs:B≤s)(ze:∀k∈uG d s m wv,¬R k)(he:kC Z W md)(hY:Y d S)(hp:CZ R B w q fq p)(hc:lC R w cv L)(hi:Su R w iv inp)(tK:∀k,R k→k<w.heap.size)(fF:inp.length≤1000000):aC prog 173 [.pointer (some ⟨m,0,none⟩),cv,iv,.pointer (some ⟨q,0,none⟩)] w fun r w'=>∃x fp,r=.pointer (some ⟨x,0,none⟩)∧Vm Y Z R B w' x fp ⟨L,inp,m,q,md,p,0,false,fE S⟩∧ae [] w w'∧∀k∈fp,k∈uG d s m wv∨k∈fq∨w.heap.size≤k:=by
 obtain⟨ia,gN,rfl,Sj⟩:=hi;obtain⟨ca,cA,cL⟩:=hc.form;subst cL;obtain⟨pv,rfl,hp⟩:=hp;have al7:eS w (.slice ia inp.length gN) inp:=⟨ia,gN,rfl,fun h0=>by
  obtain⟨b,q,e,hR,hr⟩:=Sj h0;exact⟨b,q,e,tK b hR,hr⟩⟩
 have uD:B≤w.heap.size:=Nat.le_trans aZ.hm (Nat.le_of_lt aZ.mem.af.lt);refine aG 20 func173 ?_;refine au ?_;refine ai (.bool false) (Vf (by decide+kernel) rfl rfl w) ?_;refine oC (Nu al7 fF) ?_;rintro r w1⟨hr,ah⟩;obtain⟨ra,Ly,rfl⟩:=hr.form;refine au ?_;refine ai _ (bL _ rfl rfl (aiT m q ca ra L.length cA inp.length Ly) w1) ?_;refine aj (bY (uM m (.slice ca L.length cA) (.slice ra inp.length Ly) q 0 false) rfl ?_);intro w2 x hx cE an aX;have hk:=ah.tr an;refine au ?_;have oY:∀k∈aW (.slice ra inp.length Ly),w.heap.size≤k:=fun k hk=>(hr.lt k hk).1;refine ay func173 rfl ⟨x,_,rfl,⟨d,s,S,W,D,wv,.slice ca L.length cA,.slice ra inp.length Ly,pv,rfl,⟨aZ.aA hk,hs,rfl,hp.aA hk,aX,hc.keep hk fun c hR=>⟨tK c hR,by simp⟩,(hr.low uD).keep an (fun _ _=>by simp),by have:=ah.size;omega,?_,?_⟩,he,hY⟩,hk,?_⟩
 ·intro k hk hm;have:=(hp.lt k (by simp[hk])).2.1;have:=oY k hm;omega
 ·intro k hk hR;have az:=tK k hR;have:=ah.size;rcases dU.1 hk with h1|h1|h1|h1|h1|h1
  ·omega
  ·exact ze k (by simp only[uG,List.mem_cons];exact .inl h1) hR
  ·exact ze k (by simp only[uG,List.mem_cons];exact .inr (.inl h1)) hR
  ·exact ze k (by simp only[uG,List.mem_cons];exact .inr (.inr h1)) hR
  ·exact hp.nr k h1 hR
  ·have:=oY k h1;omega
 ·intro k hk;have:=ah.size;rcases dU.1 hk with h1|h1|h1|h1|h1|h1
  ·exact .inr (.inr (by omega))
  ·exact .inl (by simp only[uG,List.mem_cons];exact .inl h1)
  ·exact .inl (by simp only[uG,List.mem_cons];exact .inr (.inl h1))
  ·exact .inl (by simp only[uG,List.mem_cons];exact .inr (.inr h1))
  ·exact .inr (.inl h1)
  ·exact .inr (.inr (oY k h1))
end
end E
end Go.Proofs.YtoigoojdbpbhoagGreatDoor
