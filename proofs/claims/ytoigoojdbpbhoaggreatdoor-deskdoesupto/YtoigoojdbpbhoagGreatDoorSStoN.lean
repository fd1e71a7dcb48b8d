/- Texts StoN. -/
import Derived.Test.YtoigoojdbpbhoagGreatDoorSStoM
namespace Go.Proofs.YtoigoojdbpbhoagGreatDoor
set_option maxRecDepth 20000
set_option maxHeartbeats 4000000
namespace E
def OV(S:List Int)(ps:List Pg)(i:Int):List Int:=match zU ps i.toNat with
 |some ws=>ws
 |none=>gX S i
structure C0(S:List Int)(ps:List Pg)(S':List Int):Prop where
 tj:Good S'
 gen:fE S'=fE S+1
 read:∀i,kQ i=true→gX S' i=OV S ps i
theorem Td(W:List Wr)(hW:∀p∈W,p.1<34)(S:List Int)(L:List Wr):gJ (W.map fun p=>some ((p.1:Int),p.2)) (S,L)=(S,L++W):=by
 induction W generalizing L with
 |nil=>simp[gJ]
 |cons p r ih=>
  have hb:hasB ((p.1:Nat):Int)=true:=by have:=hW p (by simp);simp[hasB];omega
  rw[List.map_cons,gJ,List.foldl_cons];have e:po (S,L) (some ((p.1:Int),p.2))=(S,L++[p]):=by simp[po,hb]
  rw[e];have:=ih (fun q hq=>hW q (List.mem_cons_of_mem _ hq)) (L++[p]);rw[gJ]at this;rw[this];simp
theorem amp{g:Int}(h:0≤g):g.tmod 2=0∨g.tmod 2=1:=by
 rw[Int.tmod_eq_emod_of_nonneg h];omega
theorem ahn(N:List Int)(k:Int)(_:N.length=17)(j:Nat):mV (N.set 1 k) j=mV N j:=by
 unfold mV;rw[List.drop_set_of_lt (by omega)]
theorem aev{S:List Int}(hG:Good S){ps:List Pg}(hc:sA ps=0)(AQ:∀p∈ps,p.2.length=8):∃(W:List Wr) (r:Wr),W.length=ps.length+2∧(∀p∈W,p.1<34∧p.2.length=8)∧(r.1<34∧r.2.length=8)∧lu S ps=(W.map fun p=>some ((p.1:Int),p.2))++[none]++[some ((r.1:Int),r.2)]++[none]∧(∀(V:List Wr) (stays:Nat→Bool),(∀p∈V,p∈W)→Same S (settled stays V S))∧C0 S ps (mc (settled (fun _=>true) W S) r):=by
 have hS:=hG.len;obtain⟨W,hP,gS,hN0,SX⟩:=V7 hS hc AQ ps.length (Nat.le_refl _);rw[List.take_of_length_le (Nat.le_refl _)]at hP hN0 SX;have Ms:=Yr hc;have hn:=hP.iS;have vZ:=hP.lay (N':=(cW S ps).N.set (1+0) (eF (cW S ps).K:Nat)) (by omega) (I6 hn 0) (by simp[hn]);have e1:(⟨(cW S ps).N.set (1+0) (eF (cW S ps).K:Nat),k_ (cW S ps).K (eF (cW S ps).K:Nat),(cW S ps).D++[some (((eF (cW S ps).K:Nat):Int),mV (cW S ps).N 0)]⟩:um)=kt (cW S ps) 0:=rfl;rw[e1]at vZ;have iy:=vZ.iS;have zb:=vZ.lay (N':=(kt (cW S ps) 0).N.set (1+1) (eF (kt (cW S ps) 0).K:Nat)) (by simp;omega) (I6 iy 1) (by simp[iy]);have e2:(⟨(kt (cW S ps) 0).N.set (1+1) (eF (kt (cW S ps) 0).K:Nat),k_ (kt (cW S ps) 0).K (eF (kt (cW S ps) 0).K:Nat),(kt (cW S ps) 0).D++[some (((eF (kt (cW S ps) 0).K:Nat):Int),mV (kt (cW S ps) 0).N 1)]⟩:um)=sS S ps:=rfl;rw[e2]at zb;have eN1:(kt (cW S ps) 0).N=(cW S ps).N.set 1 (eF (cW S ps).K:Nat):=rfl;have eN2:(sS S ps).N=((cW S ps).N.set 1 (eF (cW S ps).K:Nat)).set 2 (eF (kt (cW S ps) 0).K:Nat):=rfl;rw[eN1,ahn _ _ hn]at zb;generalize bX:eF (cW S ps).K=k0 at*;generalize ah:eF (kt (cW S ps) 0).K=k1 at*;generalize hN:(cW S ps).N=N at*;generalize IY:W++[(k0,mV N 0)]++[(k1,mV N 1)]=V at*;have lE:∀p∈V,p.1<34∧p.2.length=8:=fun p hp=>⟨(zb.mem p hp).1,(zb.mem p hp).2.1⟩;have BF:∀p∈V,∀k,at_ (nK S) k=true→p.1≠k:=fun p hp k hk e=>by
  have:=(zb.mem p hp).2.2.1;rw[e,hk]at this;cases this
 have LS:∀p∈V,p.1≠0∧p.1≠1:=fun p hp=>⟨BF p hp 0 (Dp (by decide)),BF p hp 1 (Dp (by decide))⟩;have Cu:(k0,mV N 0)∈V:=by rw[←IY];simp
 have oo:(k1,mV N 1)∈V:=by rw[←IY];simp
 have arx:0≤fE S:=T_ S;have hNg:(sS S ps).N.getD 0 0=fE S+1:=by
  rw[eN2,Fy (by decide),Fy (by decide)];exact hN0
 have amq:rV (sS S ps).N=[fE S+1,(k0:Int),(k1:Int),0,0,0,0,0]:=by
  unfold rV;rw[hNg,eN2,Fy (by decide),MY (by omega),MY (by simp;omega)]
 obtain⟨r,hr,dO⟩:∃r:Nat,(fE S+1).tmod 2=(r:Int)∧(r=0∨r=1):=by
  rcases amp (g:=fE S+1) (by omega)with h|h
  ·exact⟨0,h,.inl rfl⟩
  ·exact⟨1,h,.inr rfl⟩
 have Ak:PZ (sS S ps)=((r:Int),[fE S+1,(k0:Int),(k1:Int),0,0,0,0,0]):=by
  unfold PZ;rw[hNg,hr,amq]
 have SY:r<34∧[fE S+1,(k0:Int),(k1:Int),0,0,0,0,0].length=8:=⟨by omega,rfl⟩;have BI:∀(V':List Wr) (stays:Nat→Bool),(∀p∈V',p∈V)→Same S (settled stays V' S):=fun V' stays SZ=>
  akE hG (Tc (fun p hp=>lE p (SZ p hp)) hS) fun k hk ht=>
   I0 hS (fun p hp=>lE p (SZ p hp)) hk (fun p hp=>BF p (SZ p hp) k ht) _ (Nat.le_refl _)
 refine⟨V,(r,[fE S+1,(k0:Int),(k1:Int),0,0,0,0,0]),by rw[←IY];simp[gS],lE,SY,?_,BI,?_⟩
 ·rw[lu,zb.ZE,Ak]
 --the new state
 have L6:(settled (fun _=>true) V S).length=272:=Tc lE hS;have aoY:∀p∈V,dX (settled (fun _=>true) V S) p.1=p.2:=fun p hp=>by
  rw[Uk];exact acW lE zb.nd hS hp
 have P0:∀k,k<34→at_ (nK S) k=true→dX (settled (fun _=>true) V S) k=dX S k:=fun k hk ht=>
  I0 hS lE hk (fun p hp=>BF p hp k ht) _ (Nat.le_refl _)
 generalize settled (fun _=>true) V S=S1 at*;generalize abi:[fE S+1,(k0:Int),(k1:Int),0,0,0,0,0]=rI at*;have EF:∀k,k<34→dX (mc S1 (r,rI)) k=if r=k then rI else dX S1 k:=fun k hk=>Jm L6 SY hk;have KM:(mc S1 (r,rI)).length=272:=Dj L6 SY;generalize mc S1 (r,rI)=S2 at*;have kb:=P0 0 (by decide) (Dp (by decide));have bt:=P0 1 (by decide) (Dp (by decide));have abj:=(OU (S:=S) 2).2;have hg:fE S=hd (gW S 2):=rfl;have hhd:hd rI=fE S+1:=by rw[←abi];rfl
 have px:tT S2=rI:=by
  show gW S2 (0+1+1)=rI;have ez:hd z8=0:=by decide
  rcases dO with rfl|rfl
  ·have e0:dX S2 0=rI:=by rw[EF 0 (by decide),if_pos rfl]
   have e1:dX S2 1=dX S 1:=by rw[EF 1 (by decide),if_neg (by decide),bt]
   have er:gW S2 (0+1)=rI:=by
    unfold gW;rw[e0];show(if hd rI>hd z8 then rI else z8)=rI;rw[if_pos (by omega)]
   unfold gW;rw[er,e1,if_neg];have:=abj 1 (by decide);omega
  ·have e0:dX S2 0=dX S 0:=by rw[EF 0 (by decide),if_neg (by decide),kb]
   have e1:dX S2 1=rI:=by rw[EF 1 (by decide),if_pos rfl]
   have er:gW S2 (0+1)=gW S (0+1):=by
    unfold gW;rw[e0];rfl
   have hle:hd (gW S (0+1))≤fE S:=by
    have h0:=abj 0 (by decide);unfold gW;split
    ·exact h0
    ·show hd z8≤_;omega
   show gW S2 (0+1+1)=rI;rw[show gW S2 (0+1+1)=if hd (dX S2 (0+1))>hd (gW S2 (0+1))then dX S2 (0+1)else gW S2 (0+1) from rfl,er,show dX S2 (0+1)=rI from e1,if_pos (by omega)]
 have amr:fE S2=fE S+1:=by rw[fE,px,hhd]
 have Hy:iR S2=[(k0:Int),(k1:Int)]:=by rw[iR,px,←abi];rfl
 have P1:∀p∈V,jm S2 (p.1:Nat)=p.2:=fun p hp=>by
  have h1:=lE p hp;have h2:=LS p hp;have hb:hasB ((p.1:Nat):Int)=true:=by simp[hasB];omega
  unfold jm;rw[if_neg (by rw[hb];simp;exact h2.1),Int.toNat_natCast,EF _ h1.1,if_neg (by omega),aoY p hp]
 have IV:fH S2=N.drop 3:=by
  unfold fH;rw[Hy];show(jm S2 (k0:Nat)++jm S2 (k1:Nat)).take 14=_;have h0:=P1 _ Cu;have h1:=P1 _ oo;simp only at h0 h1;rw[h0,h1];obtain⟨a,b,c,d,e,f,g,i,j,k,m,n,o,p,q,r,s,rfl⟩:=Kv hn;rfl
 have ZF:∀i,(N.drop 3).getD i 0=N.getD (3+i) 0:=fun i=>by
  rw[List.getD_eq_getElem?_getD,List.getD_eq_getElem?_getD,List.getElem?_drop]
 have Hw:=zq hS;refine⟨⟨KM,?_,?_⟩,amr,fun i hi=>?_⟩
 ·rw[Hy];intro a ha;have h0:=(LS _ Cu).2;have h1:=(LS _ oo).2;simp only at h0 h1;simp at ha;rcases ha with rfl|rfl<;>omega
 ·rw[IV];intro a ha;obtain⟨i,hi⟩:=List.getElem?_of_mem ha;have Rj:i<14:=by
   have:=(List.getElem?_eq_some_iff.1 hi).1;simp[hn]at this;omega
  have Rm:N.getD (3+i) 0=a:=by rw[←ZF,List.getD_eq_getElem?_getD,hi];rfl
  have:=SX i Rj;split at this
  ·rename_i ws _
   obtain⟨k,ah,an⟩:=this;have:=(LS (k,ws) (by rw[←IY];simp[ah])).2;simp only at this;omega
  ·rw[Rm]at this;rw[this];exact hG.pg _ (F_ (by omega))
 ·have kW:0≤i∧i<14:=by simpa[kQ]using hi
  rw[gX,if_pos hi,IV,ZF,OV];have:=SX i.toNat (by omega);split at this
  ·rename_i ws qA
   obtain⟨k,ah,an⟩:=this;rw[an,qA];exact P1 (k,ws) (by rw[←IY];simp[ah])
  ·rename_i qA
   rw[this,qA];show jm S2 _=gX S i;rw[gX,if_pos hi];have ZG:(fH S).getD i.toNat 0∈fH S:=F_ (by omega);refine Jo fun hb h0=>?_;have bS:=hG.pg _ ZG;have iT:0≤(fH S).getD i.toNat 0∧(fH S).getD i.toNat 0<34:=by simpa[hasB]using hb
   rw[EF _ (by omega),if_neg (by omega)];exact P0 _ (by omega) (Xs ZG hb)
end E
end Go.Proofs.YtoigoojdbpbhoagGreatDoor
