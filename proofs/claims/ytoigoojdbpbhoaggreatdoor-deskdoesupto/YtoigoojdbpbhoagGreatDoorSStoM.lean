/- Texts StoM. -/
import Derived.Test.YtoigoojdbpbhoagGreatDoorJ07
namespace Go.Proofs.YtoigoojdbpbhoagGreatDoor
set_option maxRecDepth 20000
set_option maxHeartbeats 4000000
namespace E
def at_(K:List Bool)(k:Nat):Bool:=K.getD k false
theorem Xr{K:List Bool}(hK:K.length=34)(a:Int)(k:Nat):at_ (k_ K a) k=(at_ K k||(hasB a&&decide (a.toNat=k))):=by
 unfold k_ at_;cases hb:hasB a with
 |false=>simp
 | true=>
  have hi:0≤a∧a<34:=by simpa[hasB]using hb
  simp only[if_true,List.getD_eq_getElem?_getD,List.getElem?_set];by_cases e:a.toNat=k
  ·subst e;rw[if_pos rfl,if_pos (by omega)];simp
  ·simp[e]
theorem Jn:∀(l:List Int) {K:List Bool},K.length=34→∀k,at_ (jj K l) k=(at_ K k||l.any fun a=>hasB a&&decide (a.toNat=k))
 |[],K,_,k=>by simp[jj]
 |a::r,K,hK,k=>by
  have:=Jn r (K:=k_ K a) (by rw[I5,hK]) k;rw[jj,List.foldl_cons];rw[jj]at this;rw[this,Xr hK,List.any_cons,Bool.or_assoc]
theorem amn(k:Nat):at_ K0 k=false:=by
 unfold at_ K0;rw[List.getD_eq_getElem?_getD,List.getElem?_replicate];split<;>rfl
theorem N3(S:List Int)(k:Nat):at_ (nK S) k=((k==0||k==1)||(iR S).any (fun a=>hasB a&&decide (a.toNat=k))||(fH S).any (fun a=>hasB a&&decide (a.toNat=k))):=by
 unfold nK;have h0:K0.length=34:=rfl;rw[Jn _ (by rw[I1,I1,h0]),Jn _ (by rw[I1,h0]),Jn _ h0];congr 1;congr 1;rw[amn];rcases k with _|_|k
 ·decide
 ·decide
 ·simp[hasB]
theorem Dp{S:List Int}{k:Nat}(hk:k<2):at_ (nK S) k=true:=by
 rw[N3];have:k=0∨k=1:=by omega
 rcases this with rfl|rfl<;>simp
theorem V5{S:List Int}{a:Int}(ha:a∈iR S)(hb:hasB a=true):at_ (nK S) a.toNat=true:=by
 rw[N3];have:(iR S).any (fun x=>hasB x&&decide (x.toNat=a.toNat))=true:=List.any_eq_true.2 ⟨a,ha,by simp[hb]⟩;simp[this]
theorem Xs{S:List Int}{a:Int}(ha:a∈fH S)(hb:hasB a=true):at_ (nK S) a.toNat=true:=by
 rw[N3];have:(fH S).any (fun x=>hasB x&&decide (x.toNat=a.toNat))=true:=List.any_eq_true.2 ⟨a,ha,by simp[hb]⟩;simp[this]
theorem adj{a:Int}:hasB a=true∨hasB a=false:=by cases hasB a<;>simp
theorem Jo{S S':List Int}{a:Int}(h:hasB a=true→a≠0→dX S' a.toNat=dX S a.toNat):jm S' a=jm S a:=by
 unfold jm;split
 ·rfl
 ·rename_i hn
  have h1:hasB a=true:=by
   rcases adj (a:=a)with h|h
   ·exact h
   ·exact absurd (.inr h) hn
  exact h h1 fun h0=>hn (.inl h0)
theorem F_{l:List Int}{i:Nat}(h:i<l.length):l.getD i 0∈l:=by
 rw[List.getD_eq_getElem?_getD,List.getElem?_eq_getElem h];exact List.getElem_mem h
theorem alu{S S':List Int}(hS:S.length=272)(h:∀k,k<34→at_ (nK S) k=true→dX S' k=dX S k):tT S'=tT S∧iR S'=iR S∧fH S'=fH S∧∀i,gX S' i=gX S i:=by
 have h0:=h 0 (by decide) (Dp (by decide));have h1:=h 1 (by decide) (Dp (by decide));have e1:gW S' 1=gW S 1:=by
  unfold gW;rw[h0];rfl
 have hl:tT S'=tT S:=by
  show gW S' (1+1)=gW S (1+1);unfold gW;rw[h1,e1]
 have ht:iR S'=iR S:=by rw[iR,iR,hl]
 have t2:=Dh hS;have iY:∀a:Int,hasB a=true→a.toNat<34:=fun a hb=>by simp[hasB]at hb;omega
 have hp:fH S'=fH S:=by
  unfold fH;rw[ht,Jo fun hb _=>h _ (iY _ hb) (V5 (F_ (by omega)) hb),Jo fun hb _=>h _ (iY _ hb) (V5 (F_ (by omega)) hb)]
 refine⟨hl,ht,hp,fun i=>?_⟩;unfold gX;split
 ·rename_i hi
  have kW:0≤i∧i<14:=by simpa[kQ]using hi
  rw[hp];exact Jo fun hb _=>h _ (iY _ hb) (Xs (F_ (by rw[zq hS];omega)) hb)
 ·rfl
structure Good(S:List Int):Prop where
 len:S.length=272
 E6:∀a∈iR S,a≠1
 pg:∀a∈fH S,a≠1
structure Same(S S':List Int):Prop where
 tj:Good S'
 gen:fE S'=fE S
 read:∀i,gX S' i=gX S i
theorem akE{S S':List Int}(hG:Good S)(hl:S'.length=272)(h:∀k,k<34→at_ (nK S) k=true→dX S' k=dX S k):Same S S':=by
 obtain⟨h1,h2,h3,h4⟩:=alu hG.len h;exact⟨⟨hl,by rw[h2];exact hG.E6,by rw[h3];exact hG.pg⟩,by rw[fE,fE,h1],h4⟩
theorem OU{S:List Int}:∀j,0≤hd (gW S j)∧∀k,k<j→hd (dX S k)≤hd (gW S j)
 |0=>⟨by show 0≤hd z8;decide,fun k hk=>by omega⟩
 | j+1=>by
  obtain⟨h1,h2⟩:=OU (S:=S) j;unfold gW;split
  ·rename_i pX
   refine⟨by omega,fun k hk=>?_⟩;rcases Nat.lt_or_ge k j with h|h
   ·have:=h2 k h;omega
   ·have:k=j:=by omega
    rw[this];exact Int.le_refl _
  ·rename_i pX
   refine⟨h1,fun k hk=>?_⟩;rcases Nat.lt_or_ge k j with h|h
   ·exact h2 k h
   ·have:k=j:=by omega
    rw[this];omega
theorem T_(S:List Int):0≤fE S:=(OU 2).1
theorem Uk(L:List Wr)(S:List Int):settled (fun _=>true) L S=L.foldl mc S:=by
 unfold settled ry;simp only[if_true,List.take_length];have:∀(L:List Wr) (n:Nat) (S:List Int),(L.zipIdx n).foldl (fun S q=>mc S q.1) S=L.foldl mc S:=by
  intro L;induction L with
  |nil=>intro n S;rfl
  |cons p r ih=>intro n S;rw[List.zipIdx_cons,List.foldl_cons,List.foldl_cons];exact ih _ _
 exact this L 0 S
theorem acU{L:List Wr}(hL:∀p∈L,p.1<34∧p.2.length=8){S:List Int}(hS:S.length=272){k:Nat}(hk:k<34)(hn:∀p∈L,p.1≠k):dX (L.foldl mc S) k=dX S k:=by
 induction L generalizing S with
 |nil=>rfl
 |cons p r ih=>
  have hp:=hL p (by simp);rw[List.foldl_cons,ih (fun q hq=>hL q (List.mem_cons_of_mem _ hq)) (Dj hS hp) (fun q hq=>hn q (List.mem_cons_of_mem _ hq)),Jm hS hp hk,if_neg (hn p (by simp))]
theorem acW{L:List Wr}(hL:∀p∈L,p.1<34∧p.2.length=8)(xx:(L.map (·.1)).Nodup){S:List Int}(hS:S.length=272){p:Wr}(hp:p∈L):dX (L.foldl mc S) p.1=p.2:=by
 induction L generalizing S with
 |nil=>simp at hp
 |cons q r ih=>
  have hq:=hL q (by simp);have hr:∀p∈r,p.1<34∧p.2.length=8:=fun x hx=>hL x (List.mem_cons_of_mem _ hx);rw[List.map_cons,List.nodup_cons]at xx;rw[List.foldl_cons];rcases List.mem_cons.1 hp with rfl|hp
  ·rw[acU hr (Dj hS hq) hq.1 (fun x hx e=>xx.1 (List.mem_map.2 ⟨x,hx,e⟩)),Jm hS hq hq.1,if_pos rfl]
  ·exact ih hr xx.2 (Dj hS hq) hp
theorem Tc{stays:Nat→Bool}{L:List Wr}(hL:∀p∈L,p.1<34∧p.2.length=8){S:List Int}(hS:S.length=272):(settled stays L S).length=272:=Je hL hS _ (Nat.le_refl _)
theorem I0{stays:Nat→Bool}{L:List Wr}{S:List Int}{k:Nat}(hS:S.length=272)(hL:∀p∈L,p.1<34∧p.2.length=8)(hk:k<34)(hn:∀p∈L,p.1≠k):∀j,j≤L.length→dX (ry stays L j S) k=dX S k
 |0,_=>by rw[Od]
 | j+1,h=>by
  have hp:L[j]?=some L[j]:=List.getElem?_eq_getElem h;have hm:L[j]∈L:=List.getElem_mem h;rw[JI stays hp];split
  ·rw[Jm (Je hL hS j (by omega)) (hL _ hm) hk,if_neg (hn _ hm)];exact I0 hS hL hk hn j (by omega)
  ·exact I0 hS hL hk hn j (by omega)
def zU(ps:List Pg)(i:Nat):Option (List Int):=((ps.filter fun p=>p.1==(i:Int)).getLast?).map (·.2)
theorem afA(ps:List Pg)(p:Pg)(i:Nat):zU (ps++[p]) i=if p.1=(i:Int)then some p.2 else zU ps i:=by
 unfold zU;rw[List.filter_append];by_cases h:p.1=(i:Int)
 ·simp[h]
 ·simp[h]
def cnt(K:List Bool):Nat:=K.count true
theorem V6{K:List Bool}(a:Int):cnt (k_ K a)≤cnt K+1:=by
 unfold k_ cnt;split
 ·by_cases h:a.toNat<K.length
  ·rw[List.count_set h];split<;>split<;>omega
  ·rw[List.set_eq_of_length_le (by omega)];omega
 ·omega
theorem No:∀(l:List Int) (K:List Bool),cnt (jj K l)≤cnt K+l.length
 |[],K=>by simp[jj]
 |a::r,K=>by
  have h1:=No r (k_ K a);have h2:=V6 (K:=K) a;rw[jj,List.foldl_cons,List.length_cons];rw[jj]at h1;omega
theorem afB{S:List Int}(hS:S.length=272):cnt (nK S)≤18:=by
 unfold nK;have h1:=No (fH S) (jj (jj K0 [0,1]) (iR S));have h2:=No (iR S) (jj K0 [0,1]);have h3:cnt (jj K0 [0,1])=2:=by decide+kernel
 rw[zq hS]at h1;rw[Dh hS]at h2;omega
theorem free_spec{K:List Bool}(hK:K.length=34)(hc:cnt K<34):eF K<34∧at_ K (eF K)=false:=by
 have hex:∃k,k<34∧at_ K k=false:=by
  have bS:¬cnt K=K.length:=by omega
  unfold cnt at bS;rw[List.count_eq_length]at bS;have:∃b∈K,¬true=b:=by
   apply Classical.byContradiction;intro ku;exact bS fun b hb=>Classical.byContradiction fun hn=>ku ⟨b,hb,hn⟩
  obtain⟨b,hb,CL⟩:=this;obtain⟨k,hk⟩:=List.getElem?_of_mem hb;have az:k<K.length:=(List.getElem?_eq_some_iff.1 hk).1;refine⟨k,by omega,?_⟩;unfold at_;rw[List.getD_eq_getElem?_getD,hk];cases b
  ·rfl
  ·exact absurd rfl CL
 obtain⟨k,hk,hf⟩:=hex;unfold eF zB;cases KX:(List.range 34).find? (fun i=>!K.getD i false)with
 |none=>
  rw[List.find?_eq_none]at KX;have:=KX k (List.mem_range.2 hk);unfold at_ at hf;rw[hf]at this;simp at this
 |some j=>
  have h1:=List.mem_of_find?_eq_some KX;have h2:=List.find?_some KX;refine⟨List.mem_range.1 h1,?_⟩;unfold at_;simpa using h2
structure LR(S:List Int)(x:um)(W:List Wr):Prop where
 iS:x.N.length=17
 lj:x.K.length=34
 sup:∀k,at_ (nK S) k=true→at_ x.K k=true
 ZE:x.D=W.map fun p=>some ((p.1:Int),p.2)
 mem:∀p∈W,p.1<34∧p.2.length=8∧at_ (nK S) p.1=false∧at_ x.K p.1=true
 nd:(W.map (·.1)).Nodup
 c:cnt x.K≤18+W.length
theorem LR.lay{S:List Int}{x:um}{W:List Wr}(h:LR S x W)(hW:W.length<16){ws:List Int}(hw:ws.length=8){N':List Int}(hN:N'.length=17):LR S ⟨N',k_ x.K (eF x.K:Nat),x.D++[some (((eF x.K:Nat):Int),ws)]⟩ (W++[(eF x.K,ws)]):=by
 obtain⟨h1,h2⟩:=free_spec h.lj (by have:=h.c;omega);have hb:hasB ((eF x.K:Nat):Int)=true:=by simp[hasB];omega
 have eJ:∀k,at_ (k_ x.K (eF x.K:Nat)) k=(at_ x.K k||decide (eF x.K=k)):=fun k=>by
  rw[Xr h.lj,hb];simp
 refine⟨hN,by simp[I5,h.lj],fun k hk=>by simp only[eJ,h.sup k hk,Bool.true_or],by rw[h.ZE];simp,fun p hp=>?_,?_,?_⟩
 ·rcases List.mem_append.1 hp with hp|hp
  ·obtain⟨a,b,c,d⟩:=h.mem p hp;exact⟨a,b,c,by simp only[eJ,d,Bool.true_or]⟩
  ·simp at hp;subst hp;refine⟨h1,hw,?_,by simp[eJ]⟩;cases ht:at_ (nK S) (eF x.K)with
   |false=>rfl
   |true=>rw[h.sup _ ht]at h2;cases h2
 ·rw[List.map_append,List.nodup_append];refine⟨h.nd,by simp,fun a ha b hb e=>?_⟩;simp at hb;obtain⟨p,hp,rfl⟩:=List.mem_map.1 ha;have:=(h.mem p hp).2.2.2;rw[e,hb,h2]at this;cases this
 ·have:=V6 (K:=x.K) ((eF x.K:Nat):Int);have:=h.c;simp only[List.length_append,List.length_singleton];omega
theorem MY{l:List Int}{i:Nat}(h:i<l.length)(x:Int):(l.set i x).getD i 0=x:=by
 rw[List.getD_eq_getElem?_getD,List.getElem?_set];simp[h]
theorem Fy{l:List Int}{i j:Nat}(h:i≠j)(x:Int):(l.set i x).getD j 0=l.getD j 0:=by
 rw[List.getD_eq_getElem?_getD,List.getElem?_set];simp[h]
theorem ahm{done:List Int}{i:Int}(hi:kQ i=true)(hn:done.contains i=false):cnt (ahead (done++[i]))=cnt (ahead done)+1:=by
 have Ms:=Df done;have kW:0≤i∧i<14:=by simpa[kQ]using hi
 have az:i.toNat<(ahead done).length:=by omega
 have eJ:=Xq done hi;rw[List.getElem?_eq_getElem az,hn]at eJ;have aoX:(ahead done)[i.toNat]=false:=by simpa using eJ
 rw[←V4 _ hi,cnt,List.count_set az,aoX];simp[cnt]
theorem Ul:∀{ps:List Pg} {done:List Int},rP done ps=0→cnt (ahead done)+ps.length≤14
 |[],done,_=>by
  have:cnt (ahead done)≤(ahead done).length:=List.count_le_length;rw[Df]at this;simpa using this
 | p::r,done,h=>by
  unfold rP at h;split at h
  ·cases h
  ·rename_i h1
   split at h
   ·cases h
   ·rename_i h2
    have:=Ul h;rw[ahm (by simpa using h1) (by simpa using h2)]at this;simp only[List.length_cons];omega
theorem Yr{ps:List Pg}(h:sA ps=0):ps.length≤14:=by
 have:=Ul h;omega
def amo(S:List Int)(ps:List Pg)(W:List Wr)(N:List Int):Prop:=
 N.getD 0 0=fE S+1∧∀i,i<14→match zU ps i with
  |some ws=>∃k,(k,ws)∈W∧N.getD (3+i) 0=(k:Int)
  |none=>N.getD (3+i) 0=(fH S).getD i 0
theorem V7{S:List Int}(hS:S.length=272){ps:List Pg}(hc:sA ps=0)(AQ:∀p∈ps,p.2.length=8):∀j,j≤ps.length→∃W,LR S (cW S (ps.take j)) W∧W.length=j∧amo S (ps.take j) W (cW S (ps.take j)).N
 | 0,_=>by
  have t2:=Dh hS;have IW:=zq hS;refine⟨[],⟨by simp[cW,Eg,t2,IW],?_,fun k hk=>hk,rfl,by simp,by simp,?_⟩,rfl,rfl,fun i hi=>?_⟩
  ·show(nK S).length=34;simp[nK,I1,K0]
  ·have:=afB hS;simpa[cW]using this
  ·obtain⟨a,b,h⟩:=ZB t2;show((fE S+1)::(iR S++fH S)).getD (3+i) 0=_;rw[h,Nat.add_comm];rfl
 | j+1,hj=>by
  obtain⟨W,h1,h2,h3,h4⟩:=V7 hS hc AQ j (by omega);have Ms:=Yr hc;obtain⟨p,hp⟩:∃p,ps[j]?=some p:=⟨_,List.getElem?_eq_getElem hj⟩;have CE:=List.mem_of_getElem? hp;have hi:0≤p.1∧p.1<14:=by simpa[kQ]using NC hc p CE
  have hn:=h1.iS;rw[FL S hp];refine⟨W++[(eF (cW S (ps.take j)).K,p.2)],h1.lay (by omega) (AQ p CE) (by simp[hn]),by simp[h2],?_,fun i Rj=>?_⟩
  ·show((cW S (ps.take j)).N.set (3+p.1.toNat) _).getD 0 0=_;rw[Fy (by omega)];exact h3
  ·have e:ps.take (j+1)=ps.take j++[p]:=by
    have az:j<ps.length:=hj;rw[List.take_succ_eq_append_getElem az,(List.getElem?_eq_some_iff.1 hp).2]
   rw[e,afA];show match(if p.1=(i:Int)then some p.2 else zU (ps.take j) i)with
    |some ws=>∃k,(k,ws)∈W++[(eF (cW S (ps.take j)).K,p.2)]∧((cW S (ps.take j)).N.set (3+p.1.toNat) (eF (cW S (ps.take j)).K:Nat)).getD (3+i) 0=(k:Int)
    |none=>((cW S (ps.take j)).N.set (3+p.1.toNat) (eF (cW S (ps.take j)).K:Nat)).getD (3+i) 0=(fH S).getD i 0
   by_cases E0:p.1=(i:Int)
   ·rw[if_pos E0];refine⟨eF (cW S (ps.take j)).K,by simp,?_⟩;rw[show 3+p.1.toNat=3+i by omega,MY (by omega)]
   ·rw[if_neg E0,Fy (by omega)];have:=h4 i Rj;split at this
    ·rename_i ws qA
     obtain⟨k,ah,an⟩:=this;exact⟨k,List.mem_append_left _ ah,an⟩
    ·exact this
end E
end Go.Proofs.YtoigoojdbpbhoagGreatDoor
