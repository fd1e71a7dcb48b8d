/- Texts TbP TokM TokS TkA LdS TkB DkW DkS TreeA CodeM CmM ChkI CmN BeM EvM LiM EvN EvO IdM LzM Rd TreeV Res2 Step CmR. -/
import Derived.Test.YtoigoojdbpbhoagGreatDoorProg
import Derived.Test.YtoigoojdbpbhoagGreatDoorJ00
import Derived.Lib.ParseIntBTie
import Derived.Lib.ParseIntBCases
import Derived.Lib.ItoaLen
import Derived.Lib.LaidTab
import Derived.Test.YtoigoojdbpbhoagGreatDoorSShelf
import Derived.Lib.SmallJoins
import Derived.Lib.FieldsP
import Derived.Shelf.Strings.FieldsFuncAny
import Derived.Shelf.Strings.OnBuilder
import Derived.Shelf.Small.Wraps
import Derived.Shelf.Strings.Search3
import Derived.Deep.Slices
import Derived.OpenShut
namespace Go.Proofs.YtoigoojdbpbhoagGreatDoor
set_option maxRecDepth 20000
set_option maxHeartbeats 4000000
namespace E
open Go.Proofs.Tryz
def MU:fV:={LW:=[(30,[(0,0),(1,1),(2,2),(3,3)]),(31,[(0,0),(1,1),(2,2),(3,3)]),(33,[(0,0),(1,1)]),(34,[(0,0),(1,1)]),(44,[(0,0),(1,1),(2,2)]),(45,[(0,0),(1,1),(2,2)]),(49,[(0,0),(1,1)]),(50,[(0,0),(1,1)]),(51,[(0,0)]),(52,[(0,0)]),(53,[(0,0),(1,1)]),(54,[(0,0),(1,1)]),(74,[(0,0),(1,1)]),(75,[(0,0),(1,1)]),(80,[(0,0),(1,1),(2,2)]),(81,[(0,0),(1,1),(2,2)]),(87,[(0,0),(1,1),(2,2),(3,3)]),(88,[(0,0),(1,1),(2,2),(3,3)]),(92,[(0,0),(1,1)]),(93,[(0,0),(1,1)]),(100,[(0,0),(1,1),(2,2),(3,3)]),(101,[(0,0),(1,1),(2,2),(3,3)]),(116,[(0,0),(1,1),(2,2),(3,3),(4,4),(5,5)]),(117,[(0,0),(1,1),(2,2),(3,3),(4,4),(5,5)]),(121,[(0,0),(1,1),(2,2),(3,8),(4,14),(5,15)]),(122,[(0,0),(1,1),(2,2),(3,8),(4,14),(5,15)]),(134,[(0,0),(1,1),(2,2),(3,3),(4,5)]),(135,[(0,0),(1,1),(2,2),(3,3),(4,5)]),(136,[(0,0),(1,1)]),(137,[(0,0),(1,1)]),(140,[(0,0),(1,1),(2,2),(3,3)]),(141,[(0,0),(1,1),(2,2),(3,3)]),(142,[(0,0),(1,1),(2,2),(3,6),(4,10),(5,11)]),(143,[(0,0),(1,1),(2,2),(3,6),(4,10),(5,11)]),(147,[(0,0),(1,1),(2,2),(3,3)]),(148,[(0,0),(1,1),(2,2),(3,3)]),(165,[(0,0),(1,1),(2,2),(3,3),(4,4),(5,5)]),(166,[(0,0),(1,1),(2,2),(3,3),(4,4),(5,5)]),(180,[(0,0),(1,1),(2,2),(3,3)]),(181,[(0,0),(1,1),(2,2),(3,3)]),(190,[(0,0),(1,2),(2,3)]),(191,[(0,0),(1,2),(2,3)]),(205,[(0,0),(1,1)]),(206,[(0,0),(1,1)]),(208,[(0,0),(1,1)]),(209,[(0,0),(1,1)]),(210,[(0,0),(1,2),(2,4),(3,5),(4,6)]),(211,[(0,0),(1,2),(2,4),(3,5),(4,6)]),(214,[(0,0),(1,1),(2,2),(3,3),(4,4),(5,5)]),(215,[(0,0),(1,1),(2,2),(3,3),(4,4),(5,5)]),(223,[(0,0),(1,1),(2,2)]),(224,[(0,0),(1,1),(2,2)]),(231,[(0,0),(1,1),(2,2),(3,3)]),(234,[(0,0)]),(235,[(0,0)]),(237,[(0,0),(1,1),(2,2)]),(238,[(0,0),(1,1),(2,2)]),(242,[(0,0),(1,1),(2,2),(3,3),(4,4)]),(243,[(0,0),(1,1),(2,2),(3,3),(4,4)]),(246,[(0,0)]),(247,[(0,0)]),(248,[(0,0),(1,1)]),(249,[(0,0),(1,1)]),(252,[(0,0),(1,1),(2,2),(3,3)]),(257,[(0,0),(1,272)]),(258,[(0,0),(1,272)]),(263,[(0,0)]),(264,[(0,0)]),(267,[(0,0)]),(268,[(0,0)]),(282,[(0,0),(1,1),(2,113)]),(283,[(0,0),(1,1),(2,113)]),(285,[(0,0)]),(286,[(0,0)]),(309,[(0,0),(1,1),(2,3)]),(310,[(0,0),(1,1),(2,3)]),(319,[(0,0),(1,1)]),(320,[(0,0),(1,1)]),(336,[(0,0),(1,1)]),(337,[(0,0),(1,1)]),(341,[(0,0),(1,1),(2,18),(3,52)]),(342,[(0,0),(1,1),(2,18),(3,52)]),(361,[(0,0),(1,1),(2,2),(3,3),(4,4),(5,5),(6,6),(7,7),(8,8),(9,9),(10,10)])],sl:=[(22,1),(28,1),(32,1),(48,1),(72,2),(73,12),(91,2),(96,4),(118,4),(130,4),(139,4),(163,4),(197,4),(256,9),(304,8),(329,9),(340,1)],ar:=[(169,(24,1)),(219,(20,1)),(220,(65,1)),(253,(8,1)),(254,(8,1)),(255,(34,8)),(280,(112,1)),(281,(14,1)),(293,(32,1)),(294,(64,1)),(307,(2,1)),(308,(14,1)),(332,(8,1)),(339,(34,1)),(346,(9,1)),(353,(0,1))],one:=[(1,()),(2,()),(3,()),(4,()),(5,()),(6,()),(9,()),(10,()),(11,()),(12,()),(15,()),(16,()),(17,()),(21,()),(22,()),(23,()),(24,()),(25,()),(26,()),(27,()),(28,()),(29,()),(32,()),(36,()),(37,()),(38,()),(39,()),(40,()),(41,()),(42,()),(43,()),(46,()),(47,()),(48,()),(55,()),(56,()),(57,()),(58,()),(59,()),(60,()),(62,()),(63,()),(64,()),(65,()),(66,()),(67,()),(68,()),(70,()),(71,()),(72,()),(73,()),(77,()),(78,()),(79,()),(83,()),(84,()),(85,()),(86,()),(89,()),(90,()),(91,()),(95,()),(96,()),(97,()),(98,()),(99,()),(102,()),(103,()),(104,()),(108,()),(109,()),(110,()),(112,()),(114,()),(115,()),(118,()),(119,()),(120,()),(123,()),(124,()),(125,()),(126,()),(127,()),(128,()),(129,()),(130,()),(132,()),(133,()),(138,()),(139,()),(144,()),(145,()),(146,()),(149,()),(150,()),(151,()),(152,()),(153,()),(155,()),(157,()),(159,()),(160,()),(161,()),(162,()),(163,()),(164,()),(168,()),(170,()),(171,()),(173,()),(174,()),(176,()),(177,()),(178,()),(179,()),(182,()),(183,()),(184,()),(185,()),(186,()),(187,()),(188,()),(189,()),(192,()),(193,()),(194,()),(196,()),(197,()),(199,()),(200,()),(202,()),(203,()),(204,()),(207,()),(212,()),(213,()),(216,()),(217,()),(218,()),(221,()),(222,()),(225,()),(226,()),(227,()),(228,()),(229,()),(230,()),(233,()),(236,()),(239,()),(240,()),(241,()),(244,()),(245,()),(250,()),(251,()),(256,()),(259,()),(260,()),(261,()),(262,()),(265,()),(266,()),(269,()),(270,()),(271,()),(272,()),(273,()),(274,()),(275,()),(276,()),(277,()),(278,()),(279,()),(284,()),(287,()),(288,()),(289,()),(290,()),(291,()),(292,()),(295,()),(296,()),(297,()),(299,()),(300,()),(301,()),(302,()),(303,()),(304,()),(305,()),(306,()),(311,()),(313,()),(314,()),(315,()),(316,()),(317,()),(318,()),(321,()),(322,()),(323,()),(324,()),(325,()),(326,()),(328,()),(329,()),(330,()),(331,()),(333,()),(334,()),(335,()),(338,()),(340,()),(343,()),(344,()),(345,()),(347,()),(348,()),(349,()),(350,()),(356,()),(357,()),(358,()),(359,()),(360,())],ag:=[(30,4),(31,4),(33,2),(34,2),(44,3),(45,3),(49,2),(50,2),(51,2),(52,2),(53,3),(54,3),(74,2),(75,2),(80,3),(81,3),(87,4),(88,4),(92,2),(93,2),(100,4),(101,4),(116,6),(117,6),(121,16),(122,16),(134,6),(135,6),(136,2),(137,2),(140,4),(141,4),(142,12),(143,12),(147,4),(148,4),(165,6),(166,6),(169,24),(180,4),(181,4),(190,4),(191,4),(205,2),(206,2),(208,2),(209,2),(210,7),(211,7),(214,6),(215,6),(219,20),(220,65),(223,3),(224,3),(231,4),(234,2),(235,2),(237,3),(238,3),(242,5),(243,5),(246,1),(247,1),(248,3),(249,3),(252,4),(253,8),(254,8),(255,272),(257,273),(258,273),(263,1),(264,1),(267,1),(268,1),(280,112),(281,14),(282,127),(283,127),(285,1),(286,1),(293,32),(294,64),(307,2),(308,14),(309,17),(310,17),(319,9),(320,9),(332,8),(336,9),(337,9),(339,34),(341,53),(342,53),(346,9),(353,0),(361,11)]}
theorem hT:MU.check prog=true:=by decide+kernel
section
variable{n:Nat}{σ:Env}{o:Oper}{w:World}{v:Value}
theorem aB{t:TypeId}{x:Operand}{b i:Nat}(h2:(o.op,ev σ x)=(.load t x,some (.pointer (some ⟨b,i,none⟩))))(hc:w.cell? ⟨b,i,none⟩=some v)(ht:find MU.one t=some ():=by exact rfl):cS prog n σ o w v:=by
 simp only[Prod.mk.injEq]at h2;exact FM hT h2.1 h2.2 ht hc
theorem bF{t:TypeId}{x:Operand}{b i:Nat}(cs:List Value)(h2:(o.op,ev σ x)=(.load t x,some (.pointer (some ⟨b,i,none⟩))))(hc:w.rangeAt b i cs)(ht:find MU.ag t=some cs.length:=by exact rfl):cS prog n σ o w (.agg cs.toArray):=by
 simp only[Prod.mk.injEq]at h2;exact h_ cs hT h2.1 h2.2 ht hc
theorem bJ{t:TypeId}{x ix:Operand}{b q len cap sz:Nat}{kk:IntKind}(j:Nat){i:Int}(h5:(o.op,ev σ x,ev σ ix,find MU.sl t,i)=(.indexAddr t x ix,some (.slice (some ⟨b,q,none⟩) len cap),some (.int kk i),some sz,(j:Int)))(az:j<len)(w:World):cS prog n σ o w (.pointer (some ⟨b,q+j*sz,none⟩)):=by
 simp only[Prod.mk.injEq]at h5;exact A7 j hT h5.1 h5.2.1 h5.2.2.1 h5.2.2.2.1 h5.2.2.2.2 az w
end
theorem bE:prog.follows .mixedOrders=true:=by decide+kernel
section
open Go.Lib
def cU(c:UInt8):Bool:=decide (48≤c.toNat)&&decide (c.toNat≤57)
theorem Yv(c:UInt8):cU c=true↔48≤c.toNat∧c.toNat≤57:=by simp[cU]
theorem Tq(k:Nat)(h:k<10):(UInt8.ofNat (48+k)).toNat=48+k:=by
 rw[UInt8.toNat_ofNat'];omega
theorem adF(u:Nat):decDigits u≠[]:=by
 intro h;have h1:=decDigits_length u;have h2:=nDigits_pos u;rw[h]at h1;simp only[List.length_nil]at h1;omega
theorem Tb(u:Nat):(decDigits u).all cU=true:=by
 induction u using Nat.strongRecOn with
 | _ u ih=>
  rw[decDigits];split
  ·rename_i h
   rw[List.all_cons,Bool.and_eq_true];refine⟨(Yv _).2 ?_,rfl⟩;rw[Tq _ h];omega
  ·rename_i h
   rw[List.all_append,Bool.and_eq_true,List.all_cons,Bool.and_eq_true];refine⟨ih _ (by omega),(Yv _).2 ?_,rfl⟩;rw[Tq _ (by omega)];omega
def pk(l:List UInt8):Option Int:=
 match parseIntB 64 l with
 |.ok v=>if itoa v=l then some v else none
 |_=>none
theorem Nf{l:List UInt8}{v:Int}(h:pk l=some v):itoa v=l∧-9223372036854775808≤v∧v≤9223372036854775807∧parseIntB 64 l=.ok v:=by
 unfold pk at h;split at h
 ·rename_i u hu
  split at h
  ·rename_i he
   injection h with h;subst h;have hb:=parseIntB_bounds hu;refine⟨he,?_,?_,hu⟩
   ·have:=hb.1;simpa using this
   ·have:=hb.2;have h2:((2^(64-1):Nat):Int)=9223372036854775808:=by decide
    omega
  ·cases h
 ·cases h
end
section
open Go.Lib
structure Tok where
 pos:Nat
 text:List UInt8
 num:Bool
 val:Int
def pq(c:UInt8):Bool:=c==32||c==9||c==10||c==13
def rQ(c:UInt8):Bool:=c==40||c==41
def fz(c:UInt8):Bool:=decide (97≤c.toNat)&&decide (c.toNat≤122)
inductive Bit where
 |bad
 |skip
 |tok(text:List UInt8)(num:Bool)(val:Int)
def bit(c:UInt8)(r:List UInt8):Bit:=
  if pq c then .skip
  else if rQ c then .tok [c] false 0
  else if fz c then .tok (c::r.takeWhile fz) false 0
  else if cU c||c==45 then
    (match pk (c::r.takeWhile cU)with
     |some v=>.tok (c::r.takeWhile cU) true v
     |none=>.bad)
  else .bad
def jG:Nat→Nat→List UInt8→Except Nat (List Tok)
 |_,_,[]=>.ok []
 |0,pos,_::_=>.error pos
 | f+1,pos,c::r=>
  match bit c r with
  |.bad=>.error pos
  |.skip=>jG f (pos+1) r
  |.tok t b v=>
   match jG f (pos+t.length) ((c::r).drop t.length)with
   |.error e=>.error e
   |.ok l=>.ok (⟨pos,t,b,v⟩::l)
def qc(l:List UInt8):Except Nat (List Tok):=jG l.length 0 l
theorem DN{c:UInt8}{r:List UInt8}{t:List UInt8}{b:Bool}{v:Int}(h:bit c r=.tok t b v):∃u q,t=c::u∧r=u++q∧pq c=false:=by
 unfold bit at h;split at h
 ·cases h
 rename_i hb
 have hb:pq c=false:=by simpa using hb
 split at h
 ·injection h with h1 h2 h3;exact⟨[],r,h1.symm,rfl,hb⟩
 split at h
 ·injection h with h1 h2 h3;exact⟨_,_,h1.symm,(List.takeWhile_append_dropWhile (p:=fz) (l:=r)).symm,hb⟩
 split at h
 ·split at h
  ·injection h with h1 h2 h3;exact⟨_,_,h1.symm,(List.takeWhile_append_dropWhile (p:=cU) (l:=r)).symm,hb⟩
  ·cases h
 ·cases h
theorem JB:∀(f g pos:Nat) (l:List UInt8),l.length≤f→l.length≤g→jG f pos l=jG g pos l
 |0,0,_,_,_,_=>rfl
 |0,g+1,_,[],_,_=>rfl
 |0,g+1,_,_::_,h,_=>by simp at h
 |f+1,0,_,[],_,_=>rfl
 |f+1,0,_,_::_,_,h=>by simp at h
 |f+1,g+1,_,[],_,_=>rfl
 | f+1,g+1,pos,c::r,hf,hg=>by
  simp only[List.length_cons]at hf hg;simp only[jG];cases hb:bit c r with
  |bad=>rfl
  |skip=>exact JB f g _ r (by omega) (by omega)
  | tok t b v=>
   have⟨u,q,h1,h2,_⟩:=DN hb;subst h1;have hl:((c::r).drop (c::u).length).length≤r.length:=by
    rw[List.length_drop];simp only[List.length_cons];omega
   simp only[JB f g (pos+(c::u).length) ((c::r).drop (c::u).length) (by omega) (by omega)]
theorem Oz{f pos:Nat}{c:UInt8}{r:List UInt8}(h:bit c r=.bad)(hf:(c::r).length≤f):jG f pos (c::r)=.error pos:=by
 cases f with
 |zero=>rfl
 |succ f=>simp only[jG,h]
theorem V9{f pos:Nat}{c:UInt8}{r:List UInt8}(h:bit c r=.skip)(hf:(c::r).length≤f):jG f pos (c::r)=jG f (pos+1) r:=by
 cases f with
 |zero=>simp at hf
 |succ f=>
  simp only[List.length_cons]at hf;simp only[jG,h];exact JB _ _ _ _ (by omega) (by omega)
theorem ajf{f pos:Nat}{c:UInt8}{r t:List UInt8}{b:Bool}{v:Int}(h:bit c r=.tok t b v)(hf:(c::r).length≤f):
  jG f pos (c::r)=(match jG f (pos+t.length) ((c::r).drop t.length)with|.error e=>.error e|.ok l=>.ok (⟨pos,t,b,v⟩::l)):=by
 cases f with
 |zero=>simp at hf
 | succ f=>
  simp only[List.length_cons]at hf;have⟨u,q,h1,h2,_⟩:=DN h;subst h1;have hl:((c::r).drop (c::u).length).length≤r.length:=by
   rw[List.length_drop];simp only[List.length_cons];omega
  have e:=JB f (f+1) (pos+(c::u).length) ((c::r).drop (c::u).length) (by omega) (by omega);rw[←e];simp only[jG,h]
def ug(acc:List Tok):Except Nat (List Tok)→Except Nat (List Tok)
 |.error e=>.error e
 |.ok l=>.ok (acc++l)
theorem Xw(x:Except Nat (List Tok)):ug [] x=x:=by cases x<;>rfl
theorem JV{f pos:Nat}{c:UInt8}{r t:List UInt8}{b:Bool}{v:Int}(acc:List Tok)(h:bit c r=.tok t b v)(hf:(c::r).length≤f):ug acc (jG f pos (c::r))=ug (acc++[⟨pos,t,b,v⟩]) (jG f (pos+t.length) ((c::r).drop t.length)):=by
 rw[ajf h hf];cases jG f (pos+t.length) ((c::r).drop t.length)with
 |error e=>rfl
 |ok l=>simp[ug]
def alv:List Tok→List UInt8
 |[]=>[]
 |t::r=>t.text++32::10::alv r
def uj:List Tok→Prop
 |[]=>True
 |t::r=>(∃c u r0,t.text=c::u∧bit c r0=.tok (c::u) t.num t.val)∧uj r
def Gn:List Tok→Nat
 |[]=>0
 |t::r=>t.text.length+Gn r
theorem F0:∀(f pos:Nat) (l:List UInt8) (ts:List Tok),jG f pos l=.ok ts→uj ts∧Gn ts≤l.length
 | f,pos,[],ts,h=>by
  have h2:ts=[]:=by
   cases f<;>(simp only[jG]at h;injection h with h;exact h.symm)
  subst h2;exact⟨trivial,Nat.zero_le _⟩
 |0,_,_::_,_,h=>by simp only[jG]at h;cases h
 | f+1,pos,c::r,ts,h=>by
  simp only[jG]at h;cases hb:bit c r with
  |bad=>rw[hb]at h;cases h
  |skip=>
   rw[hb]at h;have⟨h1,h2⟩:=F0 f _ r ts h;exact⟨h1,by simp only[List.length_cons];omega⟩
  | tok t b v=>
   rw[hb]at h;simp only at h;cases hr:jG f (pos+t.length) ((c::r).drop t.length)with
   |error e=>rw[hr]at h;cases h
   | ok l=>
    rw[hr]at h;injection h with h;subst h;have⟨h1,h2⟩:=F0 f _ _ l hr;have⟨u,q,h3,h4,_⟩:=DN hb;subst h3;refine⟨⟨⟨c,u,r,rfl,hb⟩,h1⟩,?_⟩;rw[List.length_drop]at h2;have h5:(c::u).length≤(c::r).length:=by
     rw[h4];simp only[List.length_cons,List.length_append];omega
    show(c::u).length+Gn l≤(c::r).length;omega
theorem V_(c:UInt8)(r:List UInt8)(h:pq c=true):bit c r=.skip:=by
 unfold bit;rw[if_pos h]
end
theorem Rk(c d:UInt8):(c==d)=decide (c.toNat=d.toNat):=by
 rw[Bool.eq_iff_iff];simp[←UInt8.toNat_inj]
theorem Bq(c:UInt8):pq c=(decide (c.toNat=32)||decide (c.toNat=9)||decide (c.toNat=10)||decide (c.toNat=13)):=by
 unfold pq;simp only[Rk];rfl
theorem Kb(c:UInt8):rQ c=(decide (c.toNat=40)||decide (c.toNat=41)):=by
 unfold rQ;simp only[Rk];rfl
theorem Kw(c:UInt8):(c==45)=decide (c.toNat=45):=Rk c 45
theorem aew(c:UInt8)(w:World):aC prog 162 [.int .u8 (c.toNat:Nat)] w fun r w'=>r=.bool (pq c)∧w'=w:=by
 refine aG 17 func162 ?_;by_cases h1:c.toNat=32
 ·refine aU ?_;exact ay func162 rfl ⟨by simp[Bq,h1],rfl⟩
 by_cases h2:c.toNat=9
 ·refine aU ?_;exact ay func162 rfl ⟨by simp[Bq,h2],rfl⟩
 by_cases h3:c.toNat=10
 ·refine aU ?_;exact ay func162 rfl ⟨by simp[Bq,h3],rfl⟩
 by_cases h4:c.toNat=13
 ·refine aU ?_;exact ay func162 rfl ⟨by simp[Bq,h4],rfl⟩
 ·refine aU ?_;exact ay func162 rfl ⟨by simp[Bq,h1,h2,h3,h4],rfl⟩
theorem TM(c:UInt8)(w:World):aC prog 188 [.int .u8 (c.toNat:Nat)] w fun r w'=>r=.bool (fz c)∧w'=w:=by
 refine aG 9 func188 ?_;by_cases h1:97≤c.toNat
 ·by_cases h2:c.toNat≤122
  ·refine aU ?_;exact ay func188 rfl ⟨by simp[fz,h1,h2],rfl⟩
  ·refine aU ?_;exact ay func188 rfl ⟨by simp[fz,h2],rfl⟩
 ·refine aU ?_;exact ay func188 rfl ⟨by simp[fz,h1],rfl⟩
theorem Um(c:UInt8)(w:World):aC prog 190 [.int .u8 (c.toNat:Nat)] w fun r w'=>r=.bool (cU c)∧w'=w:=by
 refine aG 9 func190 ?_;by_cases h1:48≤c.toNat
 ·by_cases h2:c.toNat≤57
  ·refine aU ?_;exact ay func190 rfl ⟨by simp[cU,h1,h2],rfl⟩
  ·refine aU ?_;exact ay func190 rfl ⟨by simp[cU,h2],rfl⟩
 ·refine aU ?_;exact ay func190 rfl ⟨by simp[cU,h1],rfl⟩
theorem Uo(c:UInt8)(w:World):aC prog 113 [.int .u8 (c.toNat:Nat)] w fun r w'=>r=.bool (fz c)∧w'=w:=by
 refine aG 9 func113 ?_;by_cases h1:97≤c.toNat
 ·by_cases h2:c.toNat≤122
  ·refine aU ?_;exact ay func113 rfl ⟨by simp[fz,h1,h2],rfl⟩
  ·refine aU ?_;exact ay func113 rfl ⟨by simp[fz,h2],rfl⟩
 ·refine aU ?_;exact ay func113 rfl ⟨by simp[fz,h1],rfl⟩
theorem Vb(c:UInt8)(w:World):aC prog 114 [.int .u8 (c.toNat:Nat)] w fun r w'=>r=.bool (cU c)∧w'=w:=by
 refine aG 9 func114 ?_;by_cases h1:48≤c.toNat
 ·by_cases h2:c.toNat≤57
  ·refine aU ?_;exact ay func114 rfl ⟨by simp[cU,h1,h2],rfl⟩
  ·refine aU ?_;exact ay func114 rfl ⟨by simp[cU,h2],rfl⟩
 ·refine aU ?_;exact ay func114 rfl ⟨by simp[cU,h1],rfl⟩
theorem N4{p:UInt8→Bool}{l:List UInt8}{i:Nat}(hi:i<l.length):(l.drop i).takeWhile p=if p l[i]=true then l[i]::(l.drop (i+1)).takeWhile p else[]:=by
 rw[List.drop_eq_getElem_cons hi];split
 ·rename_i h;rw[List.takeWhile_cons_of_pos h]
 ·rename_i h;rw[List.takeWhile_cons_of_neg h]
theorem Ys(g:Nat)(p:UInt8→Bool)(hg:pd prog g=true)(hp:∀(c:UInt8) (w:World),aC prog g [.int .u8 (c.toNat:Nat)] w fun r w'=>r=.bool (p c)∧w'=w)(l:List UInt8)(hl:l.length≤1000000)(w:World):aC prog 189 [.string (str l),.func (.func g) #[] #[]] w fun r w'=>r=.int .i64 ((l.takeWhile p).length:Nat)∧w'=w:=by
 refine aG 20 func189 ?_;refine au ?_;refine cP (fun m σ w'=>∃i:Nat,i≤l.length∧m=l.length-i∧σ=[(0,.string (str l)),(1,.func (.func g) #[] #[]),(5,.int .i64 (i:Nat))]∧(l.takeWhile p).length=i+((l.drop i).takeWhile p).length∧w'=w) l.length _ ?_ ⟨0,by omega,by omega,rfl,by simp,rfl⟩ ?_
 ·exact⟨rfl,rfl,rfl,trivial⟩
 rintro m σ w2 ih⟨i,hi,rfl,rfl,ht,rfl⟩;refine au ?_;refine ai _ (p_ l (by decide+kernel) rfl rfl w2) ?_;by_cases az:i<l.length
 ·refine ye ?_;refine au ?_;refine ai _ (wo l i l[i] (by decide+kernel) rfl rfl rfl rfl (List.getElem?_eq_getElem az) w2) ?_;refine aj (rK (fst:=[]) (cap:=[]) rfl rfl rfl rfl hg ((hp l[i] w2).mono ?_));rintro v w3⟨rfl,rfl⟩;rw[N4 az]at ht;cases uz:p l[i]with
  |true=>
   rw[uz,if_pos rfl,List.length_cons]at ht;refine nM ((i+1:Nat):Int) ?_;refine au ?_;refine bj ?_ (ih _ _ _ ?_ ⟨i+1,az,rfl,rfl,by omega,rfl⟩)
   ·exact⟨rfl,rfl,rfl,trivial⟩
   ·omega
  |false=>
   rw[uz,if_neg (by decide),List.length_nil]at ht;refine au ?_;exact ay func189 rfl ⟨by rw[ht];rfl,rfl⟩
 ·refine aL ?_;refine au ?_;have e:i=l.length:=by omega
  rw[e,List.drop_length]at ht;exact ay func189 rfl ⟨by rw[ht,e];rfl,rfl⟩
section
open Go.Lib
def Gj{H:Type}(zs:List (List UInt8)):DataW H:=.agg (zs.map fun z=>.lit (.string z))
def D9(P:Program)(w:World)(name:String)(zs:List (List UInt8)):Prop:=w.var? P name=some (zs.map fun z=>Value.string (str z)).toArray
theorem adb{H:Type}{enc:TypeId×Value→H}{P:Program}{w:World}{base:Nat}{sp:Nat→Bool}{held:Bool}{fuel:Nat}{t e:TypeId}{n:Nat}{cs:List Value}{zs:List (List UInt8)}{p:List MemPlace} (ht:P.underlying t=some (.array n e))(he:P.underlying e=some .string)(pN:P.cellsOf e=1)(eU:P.cellsOf t=n) (h:DataW.trod enc P w base sp held fuel t cs=some (Gj zs,p)):cs=zs.map fun z=>Value.string (str z):=by
 cases fuel with
 |zero=>simp[DataW.trod]at h
 | succ fuel=>
  simp only[DataW.trod,ht,pN,eU,Nat.mul_one]at h;split at h
  ·rename_i hl
   obtain⟨xs,hm,hx⟩:=Option.map_eq_some_iff.1 h;have pK:xs.map (·.1)=zs.map fun z=>(DataW.lit (.string z):DataW H):=by
    have:=congrArg Prod.fst hx;simpa[Gj]using this
   have pV:xs.length=n:=by simpa using mapM_length hm
   have hzl:zs.length=n:=by
    have:=congrArg List.length pK;simp at this;omega
   apply List.ext_getElem?;intro i;by_cases hi:i<n
   ·obtain⟨b,hb,hf⟩:=mapM_at hm i i (by simp[hi]);obtain⟨s,hc,lq,_⟩:=DataW.trod_string he hf;have h1:cs[i]?=some (.string s):=by
     have:=congrArg (·[0]?) hc;simpa[List.getElem?_take,List.getElem?_drop]using this
    have h2:(xs.map (·.1))[i]?=some (DataW.lit (.string s.data.toList):DataW H):=by simp[hb,lq]
    rw[pK]at h2;simp only[List.getElem?_map,Option.map_eq_some_iff,DataW.lit.injEq,Lit.string.injEq]at h2;obtain⟨z',hz',tA⟩:=h2;rw[h1,List.getElem?_map,hz',tA,Option.map_some,F2]
   ·rw[List.getElem?_eq_none (by omega),List.getElem?_eq_none (by simp;omega)]
  ·cases h
theorem Th{P:Program}{W:World}{name:String}{zs:List (List UInt8)}{rest:List (String×DataW Unit)}{g:Nat}{t e:TypeId}{n:Nat} (hg:P.globalNamed name=some g)(CW:(P.globals[g]?).map (·.type)=some t)(ht:P.underlying t=some (.array n e))(he:P.underlying e=some .string)(pN:P.cellsOf e=1)(eU:P.cellsOf t=n) (h:laidMet P ((name,Gj zs)::rest) W):D9 P W name zs:=by
 obtain⟨ps,⟨g',t',cs,fuel,p,q,vR,ht',an2,hd,_,_⟩,_⟩:=h;obtain rfl:=Option.some.inj (hg.symm.trans vR);obtain rfl:=Option.some.inj (CW.symm.trans ht');unfold D9;rw[an2,←adb ht he pN eU hd]
theorem D9.cell{P:Program}{W:World}{name:String}{zs:List (List UInt8)}{g:Nat}(h:D9 P W name zs)(hg:P.globalNamed name=some g)(i:Nat)(z:List UInt8)(hi:zs[i]?=some z):W.cell? ⟨g,i,none⟩=some (.string (str z)):=by
 have:=World.var?_cell hg h i;rw[this];simp[hi]
def O_:List (List UInt8):=[[],[110,117,109],[118,97,114],[103,101,116],[97,100,100],[115,117,98],[109,117,108],[108,101,115,115],[115,97,109,101]]
def Pa:List (List UInt8):=[[],[115,101,116],[112,117,116],[112,114,105,110,116],[114,101,97,100],[119,104,105,108,101],[105,102],[99,111,109,109,105,116]]
end
structure Lt(w:World):Prop where
 E6:Lib.TabIs prog w "internal/strconv.uint64pow10" .u64 Lib.pow10Tab
 AV:D9 prog w "overwinter/parse.words" O_
 SM:D9 prog w "overwinter/parse.verbs" Pa
structure Lw(w:World):Prop where
 lt:Lt w
 S3:∃tp p,w.var? prog "strconv.ErrSyntax" =some #[.iface tp p]
 S4:∃tp p,w.var? prog "strconv.ErrRange" =some #[.iface tp p]
theorem Ga{P:Program}{w w':World}{n:String}{cs:Array Value}(h:w.var? P n=some cs)(hk:ae [] w w'):w'.var? P n=some cs:=by
 unfold World.var? at h⊢;cases hg:P.globalNamed n with
 |none=>simp[hg]at h
 | some g=>
  simp only[hg,Option.bind_some]at h⊢;have az:g<w.heap.size:=by
   rcases Nat.lt_or_ge g w.heap.size with h'|h'
   ·exact h'
   ·simp[Array.getElem?_eq_none h']at h
  rw[hk.block g az (by simp)];exact h
theorem Lt.keep{w w':World}(h:Lt w)(hk:ae [] w w'):Lt w' where
 E6:=Ga h.E6 hk
 AV:=Ga h.AV hk
 SM:=Ga h.SM hk
theorem Lw.keep{w w':World}(h:Lw w)(hk:ae [] w w'):Lw w' where
 lt:=h.lt.keep hk
 S3:=let⟨tp,p,hv⟩:=h.S3;⟨tp,p,Ga hv hk⟩
 S4:=let⟨tp,p,hv⟩:=h.S4;⟨tp,p,Ga hv hk⟩
theorem Dl{w w':World}(h:Go.RowKit.Below w.heap.size w w'):ae [] w w':=⟨h.os,h.tape,h.output,h.size,fun k hk _=>h.block k hk⟩
theorem VA(w:World)(k:Nat)(os:Array Obj):ae [] w (Go.Sort.grow (w.drewN k) os):=
 ⟨rfl,rfl,rfl,by simp[Go.Sort.grow,World.drewN],fun j hj _=>by simp only[Go.Sort.grow,World.drewN];rw[Array.getElem?_append_left hj]⟩
def iu(l:List UInt8):Int:=
 match Lib.parseIntB 64 l with
 |.ok v=>v
 |.«syntax»=>0
 |.range=>Lib.intSat 64 l
def yL(l:List UInt8):Bool:=
 match Lib.parseIntB 64 l with
 |.ok _=>true
 |_=>false
theorem FI(l:List UInt8):-9223372036854775808≤iu l∧iu l≤9223372036854775807:=by
 have e63:((2^(64-1):Nat):Int)=9223372036854775808:=by decide
 unfold iu;split
 ·rename_i v hv
  have hb:=Lib.parseIntB_bounds hv;exact⟨by have:=hb.1;omega,by have:=hb.2;omega⟩
 ·omega
 ·unfold Lib.intSat;split<;>omega
theorem Dz(l:List UInt8):pk l=if yL l&&(Lib.itoa (iu l)==l)then some (iu l)else none:=by
 unfold pk yL iu;cases h:Lib.parseIntB 64 l with
 |ok v=>simp
 |«syntax»=>simp
 |range=>simp
theorem M4(l:List UInt8)(hl:l.length≤1000000){w:World}(hw:Lw w):aC prog 47 [.string (str l),.int .i64 10,.int .i64 64] w fun r w'=> (∃e,r=.tuple #[.int .i64 (iu l),e]∧((yL l=true∧e=.nilIface)∨(yL l=false∧∃tp p,e=.iface tp p)))∧ae [] w w':=by
 have hs:(str l).size=l.length:=oF l;have hd:(str l).data.toList=l:=rM l;cases h:Lib.parseIntB 64 l with
 | ok v=>
  refine Calls.mono (Any.strconv_ParseInt_10_at64_ok Tryz.Oy (str l) (by omega) v (by rw[hd];exact h) w) ?_;rintro e w'⟨rfl,hw'⟩;refine⟨_,rfl,⟨_,?_,.inl ⟨by simp only[yL,h],rfl⟩⟩,?_⟩
  ·simp only[iu,h]
  ·rcases hw' with rfl|⟨t,rfl⟩
   ·exact ae.refl _ _
   ·exact Dl (Joins.below_bytesWorld _ _ _ _ (Nat.le_refl _))
 |«syntax»=>
  obtain⟨tp,p,hv⟩:=hw.S3;refine Calls.mono (Any.strconv_ParseInt_10_at64_syntax_var Tryz.Oy (str l) (by omega) (by rw[hd];exact h) tp p w hv) ?_;rintro e w'⟨N,rfl,_,_,hb⟩;exact⟨_,rfl,⟨_,by simp only[iu,h];rfl,.inr ⟨by simp only[yL,h],_,_,rfl⟩⟩,Dl hb⟩
 |range=>
  obtain⟨tp,p,hv⟩:=hw.S4;refine Calls.mono (Any.strconv_ParseInt_10_at64_range_var Tryz.Oy (str l) (by omega) (by rw[hd];exact h) tp p w hv) ?_;rintro e w'⟨N,rfl,_,_,hb⟩;exact⟨_,rfl,⟨_,by simp only[iu,h,hd];rfl,.inr ⟨by simp only[yL,h],_,_,rfl⟩⟩,Dl hb⟩
theorem Fz(v:Int)(h0:-9223372036854775808≤v)(h1:v≤9223372036854775807){w:World}(hw:Lt w):aC prog 46 [.int .i64 v,.int .i64 10] w fun r w'=>r=.string (str (Lib.itoa v))∧ae [] w w':=by
 refine Calls.mono (Any.strconv_FormatInt_10 Tryz.ai_ v h0 h1 w hw.E6) ?_;rintro e w'⟨rfl,k,os,rfl⟩;exact⟨_,rfl,rfl,VA _ _ _⟩
theorem afC(l:List UInt8)(hl:l.length≤1000000)(w:World):aC prog 38 [.string (str l)] w fun r w'=>r=.string (str l)∧ae [] w w':=by
 refine Calls.mono (Any.stringslite_Clone Tryz.aja (str l) w (by rw[oF];omega)) ?_;rintro e w'⟨rfl,hb⟩;exact⟨_,rfl,rfl,Dl hb⟩
theorem Vu(l:List UInt8)(hl:l.length≤1000000)(w:World):aC prog 21 [.string (str l)] w fun r w'=>r=.string (str l)∧ae [] w w':=by
 refine aG 5 func21 ?_;refine oC (afC l hl w) ?_;rintro v w1⟨rfl,hk⟩;refine au ?_;exact ay func21 rfl ⟨rfl,hk⟩
def dn(pos:Int)(l:List UInt8)(b:Bool)(v:Int):List Value:=[.int .i64 pos,.string (str l),.bool b,.int .i64 v]
def dr(t:Tok):List Value:=dn (t.pos:Nat) t.text t.num t.val
theorem mN(pos:Int)(l:List UInt8)(b:Bool)(v:Int):∀u∈dn pos l b v,u.oneCell'=true:=by
 intro u hu;simp only[dn,List.mem_cons,List.not_mem_nil,or_false]at hu;rcases hu with rfl|rfl|rfl|rfl<;>rfl
theorem Jb(t:Tok):(dr t).length=4:=rfl
theorem wx:((prog.info? 231).bind (·.zero)).map (·.cells)=some (dn 0 [] false 0).toArray:=by kernel_rfl
theorem ND:prog.built 231 []=some (dn 0 [] false 0).toArray:=by kernel_rfl
theorem afD(s:ByteArray):prog.built 231 [(1,.string s)]=some [Value.int .i64 0,.string s,.bool false,.int .i64 0].toArray:=by kernel_rfl
theorem afE(s:ByteArray)(v:Int):prog.built 231 [(1,.string s),(2,.bool true),(3,.int .i64 v)]=some [Value.int .i64 0,.string s,.bool true,.int .i64 v].toArray:=by kernel_rfl
theorem qK:dH prog 231 4=true:=by kernel_rfl
theorem Xt(l:List UInt8)(hl:l.length≤1000000)(w:World):aC prog 187 [.string (str l)] w fun r w'=>r=.agg (dn 0 l false 0).toArray∧ae [] w w':=by
 refine aG 6 func187 ?_;refine au ?_;refine aj (bO _ rfl wx ?_);intro w1 b gI bt ah aM;refine oC (Vu l hl w1) ?_;rintro v w2⟨rfl,an⟩;have aX:=an.af aM (by simp);refine ai _ (bL _ rfl rfl (afD (str l)) w2) ?_;refine aj (aH (dn 0 l false 0) rfl qK aX (by simp[dn]) (mN _ _ _ _) ?_);intro w3 cw aw aQ;rw[bs (by rfl)]at aQ;refine au ?_;exact df func187 (.inr (.inr (.inl ⟨_,_,_,rfl,rfl,cV hT aQ rfl⟩))) ⟨rfl,(ah.tr an).aO aw (by omega)⟩
def abk:Bit→Value
 |.tok t b v=>.tuple #[.agg (dn 0 t b v).toArray,.bool true]
 |_=>.tuple #[.agg (dn 0 [] false 0).toArray,.bool false]
def yM(l:List UInt8):Value:=
 match pk l with
 |some v=>.tuple #[.agg (dn 0 l true v).toArray,.bool true]
 |none=>.tuple #[.agg (dn 0 [] false 0).toArray,.bool false]
theorem ajd{l:List UInt8}(h:yL l=true)(h2:(Lib.itoa (iu l)==l)=true):yM l=.tuple #[.agg (dn 0 l true (iu l)).toArray,.bool true]:=by
 unfold yM;rw[Dz,h,h2];rfl
theorem Yt{l:List UInt8}(h:(yL l&&(Lib.itoa (iu l)==l))=false):yM l=.tuple #[.agg (dn 0 [] false 0).toArray,.bool false]:=by
 unfold yM;rw[Dz,h];rfl
theorem afF(l:List UInt8)(hl:l.length≤1000000){w:World}(hw:Lw w):aC prog 191 [.string (str l)] w fun r w'=>r=yM l∧ae [] w w':=by
 refine aG 25 func191 ?_;refine au ?_;refine aj (bO _ rfl wx ?_);intro w1 b gI bt ah aM;refine oC (M4 l hl (hw.keep ah)) ?_;rintro v w2⟨⟨er,rfl,H6⟩,an⟩;have aX:=an.af aM (by simp);refine oC (Fz (iu l) (FI l).1 (FI l).2 ((hw.keep ah).keep an).lt) ?_;rintro v w3⟨rfl,aw⟩;have aQ:=aw.af aX (by simp);have bn:ae [] w w3:=(ah.tr an).tr aw;refine au ?_;rcases H6 with⟨cT,rfl⟩|⟨cT,tp,p,rfl⟩
 ·refine ai _ (FG (by decide+kernel) rfl rfl w3) ?_;refine au ?_;obtain⟨q,hq⟩:∃q,q=(Lib.itoa (iu l)==l):=⟨_,rfl⟩;refine ai _ (tW (Lib.itoa (iu l)) l (!q) rfl rfl rfl (by rw[hq]) w3) ?_;cases q with
  |true=>
   refine au ?_;refine ai _ (bL _ rfl rfl (afE (str (Lib.itoa (iu l))) (iu l)) w3) ?_;refine aj (aH (dn 0 (Lib.itoa (iu l)) true (iu l)) rfl qK aQ (by simp[dn]) (mN _ _ _ _) ?_);intro w4 cz ax a_;rw[bs (by rfl)]at a_;refine au ?_;refine df func191 (.inr (.inr (.inr (.inl ⟨_,_,_,_,_,_,rfl,rfl,cV hT a_ rfl,rfl,rfl⟩)))) ⟨?_,bn.aO ax (by omega)⟩;rw[ajd cT hq.symm];have e:Lib.itoa (iu l)=l:=by simpa using hq.symm
   rw[e]
  |false=>
   refine au ?_;refine ai _ (bL _ rfl rfl ND w3) ?_;refine aj (aH (dn 0 [] false 0) rfl qK aQ (by simp[dn]) (mN _ _ _ _) ?_);intro w4 cz ax a_;rw[bs (by rfl)]at a_;refine au ?_;exact df func191 (.inr (.inr (.inr (.inl ⟨_,_,_,_,_,_,rfl,rfl,cV hT a_ rfl,rfl,rfl⟩)))) ⟨(Yt (by rw[←hq,Bool.and_false])).symm,bn.aO ax (by omega)⟩
 ·refine ai _ (FD tp p (by decide+kernel) rfl rfl w3) ?_;refine au ?_;refine ai _ (bL _ rfl rfl ND w3) ?_;refine aj (aH (dn 0 [] false 0) rfl qK aQ (by simp[dn]) (mN _ _ _ _) ?_);intro w4 cz ax a_;rw[bs (by rfl)]at a_;refine au ?_;exact df func191 (.inr (.inr (.inr (.inl ⟨_,_,_,_,_,_,rfl,rfl,cV hT a_ rfl,rfl,rfl⟩)))) ⟨(Yt (by rw[cT,Bool.false_and])).symm,bn.aO ax (by omega)⟩
def D5(l:List UInt8):Value:=
 match pk l with
 |some v=>.tuple #[.int .i64 v,.bool true]
 |none=>.tuple #[.int .i64 0,.bool false]
theorem VB(l:List UInt8)(hl:l.length≤1000000){w:World}(hw:Lw w):aC prog 26 [.string (str l)] w fun r w'=>r=D5 l∧ae [] w w':=by
 refine aG 20 func26 ?_;refine oC (M4 l hl hw) ?_;rintro v w2⟨⟨er,rfl,H6⟩,an⟩;refine au ?_;rcases H6 with⟨cT,rfl⟩|⟨cT,tp,p,rfl⟩
 ·refine ai _ (FG (by decide+kernel) rfl rfl w2) ?_;refine oC (Fz (iu l) (FI l).1 (FI l).2 (hw.keep an).lt) ?_;rintro v w3⟨rfl,aw⟩;refine au ?_;obtain⟨q,hq⟩:∃q,q=(Lib.itoa (iu l)==l):=⟨_,rfl⟩;refine ai _ (tW (Lib.itoa (iu l)) l (!q) rfl rfl rfl (by rw[hq]) w3) ?_;cases q with
  |true=>
   refine au ?_;refine nH func26 rfl ⟨?_,an.tr aw⟩;unfold D5;rw[Dz,cT,←hq];rfl
  |false=>
   refine au ?_;refine nH func26 rfl ⟨?_,an.tr aw⟩;unfold D5;rw[Dz,cT,←hq];rfl
 ·refine ai _ (FD tp p (by decide+kernel) rfl rfl w2) ?_;refine au ?_;refine nH func26 rfl ⟨?_,an⟩;unfold D5;rw[Dz,cT];rfl
def kF:List UInt8→List UInt8→List (List UInt8)
 |u,[]=>if u=[]then[]else[u]
 |u,c::r=>if c=32 then(if u=[]then kF [] r else u::kF [] r)else kF (u++[c]) r
def kh(l:List UInt8):List (List UInt8):=kF [] l
theorem T5:∀(t u r:List UInt8),(∀c∈t,c≠32)→kF u (t++r)=kF (u++t) r
 |[],u,r,_=>by simp
 |c::t,u,r,h=>by
  have h1:c≠32:=h c (by simp);rw[List.cons_append,kF,if_neg h1,T5 t (u++[c]) r fun d hd=>h d (by simp[hd])];simp
theorem FK:∀(r u:List UInt8),(kF u r).length≤u.length+r.length∧∀x∈kF u r,x.length≤u.length+r.length
 | [],u=>by
  unfold kF;split
  ·exact⟨Nat.zero_le _,fun x hx=>by cases hx⟩
  ·rename_i h
   have:=List.length_pos_iff.2 h;exact⟨by simp;omega,fun x hx=>by simp at hx;subst hx;simp⟩
 | c::r,u=>by
  have i0:=FK r [];have i1:=FK r (u++[c]);simp only[List.length_nil,List.length_append,List.length_cons,Nat.zero_add]at i0 i1;unfold kF;split
  ·split
   ·exact⟨by simp only[List.length_cons];omega,fun x hx=>by have:=i0.2 x hx;simp only[List.length_cons];omega⟩
   ·rename_i h
    have:=List.length_pos_iff.2 h;refine⟨by simp only[List.length_cons];omega,fun x hx=>?_⟩;rcases List.mem_cons.1 hx with h|h
    ·subst h;omega
    ·have:=i0.2 x h;simp only[List.length_cons];omega
  ·exact⟨by simp only[List.length_cons];omega,fun x hx=>by have:=i1.2 x hx;simp only[List.length_cons];omega⟩
def qq(r:Nat):Bool:=r==32
def qS(l:List UInt8)(pos:Nat):Option Nat→List UInt8
 |none=>[]
 |some a=>(l.drop a).take (pos-a)
theorem PI{c:UInt8}(h:c.toNat≠32):c≠32:=fun e=>h (by rw[e];rfl)
theorem agB(l:List UInt8)(pos:Nat)(hp:pos<l.length):(l[pos]=32∧Utf8.decode (str l) pos=(32,1))∨(qq (Utf8.decode (str l) pos).1=false∧1≤(Utf8.decode (str l) pos).2∧pos+(Utf8.decode (str l) pos).2≤l.length∧∀c∈(l.drop pos).take (Utf8.decode (str l) pos).2,c≠32):=by
 have hs:=oF l;have hg:∀k,pos+k<l.length→∃c,l[pos+k]?=some c∧(str l).get! (pos+k)=c:=fun k hk=>by
  refine⟨l[pos+k],List.getElem?_eq_getElem hk,?_⟩;show(l.toArray)[pos+k]! =_;simp[hk]
 obtain⟨c0,e0,g0⟩:=hg 0 hp;simp only[Nat.add_zero]at e0 g0;have eL:l[pos]=c0:=by
  rw[List.getElem?_eq_getElem hp]at e0;exact Option.some.inj e0
 have kJ:∀k,pos+k≤l.length→(∀j,j<k→∀c,l[pos+j]?=some c→c≠32)→∀c∈(l.drop pos).take k,c≠32:=fun k _ h c hc=>by
  obtain⟨j,hj,rfl⟩:=List.getElem_of_mem hc;have Mp:j<k∧pos+j<l.length:=by simp at hj;omega
  refine h j Mp.1 _ ?_;rw[List.getElem_take,List.getElem_drop];exact List.getElem?_eq_getElem Mp.2
 have one:c0.toNat≠32→∀r,qq r=false→Utf8.decode (str l) pos=(r,1)→(l[pos]=32∧Utf8.decode (str l) pos=(32,1))∨(qq (Utf8.decode (str l) pos).1=false∧1≤(Utf8.decode (str l) pos).2∧pos+(Utf8.decode (str l) pos).2≤l.length∧∀c∈(l.drop pos).take (Utf8.decode (str l) pos).2,c≠32):=fun hc r hr hd=>by
  rw[hd];refine .inr ⟨hr,Nat.le_refl _,hp,kJ 1 hp fun j hj c h=>?_⟩;have:j=0:=by omega
  subst this;rw[Nat.add_zero,e0]at h;cases h;exact PI hc
 have many:∀k r,1≤k→qq r=false→c0.toNat≠32→Utf8.decode (str l) pos=(r,k)→(∀j,1≤j→j<k→pos+j<l.length∧((str l).get! (pos+j)).toNat/64=2)→(l[pos]=32∧Utf8.decode (str l) pos=(32,1))∨(qq (Utf8.decode (str l) pos).1=false∧1≤(Utf8.decode (str l) pos).2∧pos+(Utf8.decode (str l) pos).2≤l.length∧∀c∈(l.drop pos).take (Utf8.decode (str l) pos).2,c≠32):=fun k r hk hr hc hd hj=>by
  rw[hd];have hle:pos+k≤l.length:=by
   rcases Nat.lt_or_ge 1 k with h|h
   ·have:=(hj (k-1) (by omega) (by omega)).1;omega
   ·omega
  refine .inr ⟨hr,hk,hle,kJ k hle fun j HF c h=>?_⟩;rcases Nat.eq_zero_or_pos j with rfl|h0
  ·rw[Nat.add_zero,e0]at h;cases h;exact PI hc
  ·obtain⟨a1,a2⟩:=hj j h0 HF;obtain⟨c',e',g'⟩:=hg j a1;rw[e']at h;cases h;rw[g']at a2;exact PI (by omega)
 by_cases h80:c0.toNat<128
 ·have hd:Utf8.decode (str l) pos=(c0.toNat,1):=by
   unfold Utf8.decode;simp only[Nat.add_zero,g0,h80,if_true]
  by_cases uC:c0.toNat=32
  ·refine .inl ⟨?_,by rw[hd,uC]⟩;rw[eL];exact UInt8.toNat_inj.1 uC
  ·exact one uC _ (by simp[qq,uC]) hd
 ·have uC:c0.toNat≠32:=by omega
  have hb:∀n:Nat,128≤n→qq n=false:=fun n hn=>by simp[qq];omega
  have cont:∀k,(decide (pos+k<(str l).size)&&((str l).get! (pos+k)).toNat/64==2)=true→pos+k<l.length∧((str l).get! (pos+k)).toNat/64=2:=fun k h=>by
   simpa[hs]using h
  generalize hD:Utf8.decode (str l) pos=D at*;unfold Utf8.decode at hD;simp only[Nat.add_zero,g0,h80,if_false]at hD;split at hD
  ·rename_i hc
   simp only[Bool.and_eq_true]at hc;split at hD
   ·exact many 2 _ (by omega) (hb _ (by omega)) uC hD.symm fun j h1 h2=>by
     have:j=1:=by omega
     subst this;exact cont 1 (by simpa using hc.2)
   ·exact one uC _ (by decide) hD.symm
  ·split at hD
   ·rename_i hc
    simp only[Bool.and_eq_true]at hc;split at hD
    ·rename_i hv
     simp only[Bool.and_eq_true,decide_eq_true_eq]at hv;exact many 3 _ (by omega) (hb _ (by omega)) uC hD.symm fun j h1 h2=>by
      have:j=1∨j=2:=by omega
      rcases this with rfl|rfl
      ·exact cont 1 (by simpa using hc.1.2)
      ·exact cont 2 (by simpa using hc.2)
    ·exact one uC _ (by decide) hD.symm
   ·split at hD
    ·rename_i hc
     simp only[Bool.and_eq_true]at hc;split at hD
     ·rename_i hv
      simp only[Bool.and_eq_true,decide_eq_true_eq]at hv;exact many 4 _ (by omega) (hb _ (by omega)) uC hD.symm fun j h1 h2=>by
       have:j=1∨j=2∨j=3:=by omega
       rcases this with rfl|rfl|rfl
       ·exact cont 1 (by simpa using hc.1.1.2)
       ·exact cont 2 (by simpa using hc.1.2)
       ·exact cont 3 (by simpa using hc.2)
     ·exact one uC _ (by decide) hD.symm
    ·exact one uC _ (by decide) hD.symm
theorem ah8{l:List UInt8}{pos k:Nat}:∀{st:Option Nat},(∀a,st=some a→a≤pos)→qS l (pos+k) (some (st.getD pos))=qS l pos st++(l.drop pos).take k
 |none,_=>by simp[qS]
 |some a,h=>by
  have ha:=h a rfl;simp only[qS,Option.getD_some];rw[show pos+k-a=(pos-a)+k by omega,List.take_add,List.drop_drop,show a+(pos-a)=pos by omega]
theorem aef(l:List UInt8):∀(f pos:Nat) (st:Option Nat) (acc:List (Nat×Nat)),pos≤l.length→l.length-pos≤f→(∀a,st=some a→a<pos)→(Lib.closeSpans (str l) (Lib.spansFromP qq (str l) f pos st acc)).map (fun x=>(str l).extract x.1 x.2)=acc.map (fun x=>(str l).extract x.1 x.2)++(kF (qS l pos st) (l.drop pos)).map str:=by
 intro f;have hs:=oF l;have fin:∀(pos:Nat) (st:Option Nat) (acc:List (Nat×Nat)),pos=l.length→(∀a,st=some a→a<pos)→(Lib.closeSpans (str l) (acc,st)).map (fun x=>(str l).extract x.1 x.2)=acc.map (fun x=>(str l).extract x.1 x.2)++(kF (qS l pos st) (l.drop pos)).map str:=fun pos st acc hp ha=>by
  rw[hp,List.drop_length];cases st with
  |none=>simp[Lib.closeSpans,qS,kF]
  | some a=>
   have az:=ha a rfl;have bS:qS l l.length (some a)≠[]:=fun e=>by
    have:=congrArg List.length e;simp[qS]at this;omega
   simp only[Lib.closeSpans,List.map_append,List.map_cons,List.map_nil,kF,if_neg bS];rw[hs,Gb];rfl
 induction f with
 |zero=>
  intro pos st acc h1 h2 h3;exact fin pos st acc (by omega) h3
 | succ f ih=>
  intro pos st acc h1 h2 h3;rcases Nat.lt_or_ge pos l.length with hp|hp
  rotate_left
  ·rw[Lib.spansFromP_end _ _ _ _ _ _ (by omega)];exact fin pos st acc (by omega) h3
  have ig:l.drop pos=l[pos]::l.drop (pos+1):=List.drop_eq_getElem_cons hp;unfold Lib.spansFromP;rw[if_pos (by omega)];rcases agB l pos hp with⟨e1,e2⟩|⟨e1,e2,e3,e4⟩
  ·rw[e2];simp only[show qq 32=true from rfl,if_true];cases st with
   |none=>
    simp only;rw[ih (pos+1) none acc (by omega) (by omega) (fun a h=>by cases h),ig,e1];simp[qS,kF]
   | some a=>
    have az:=h3 a rfl;have bS:qS l pos (some a)≠[]:=fun e=>by
     have:=congrArg List.length e;simp[qS]at this;omega
    simp only;rw[ih (pos+1) none _ (by omega) (by omega) (fun a h=>by cases h),ig,e1];simp only[kF,if_true,if_neg bS,List.map_append,List.map_cons,List.map_nil,List.append_assoc,List.cons_append,List.nil_append];rw[Gb];rfl
  ·have key:kF (qS l pos st) (l.drop pos)=kF (qS l (pos+(Utf8.decode (str l) pos).2) (some (st.getD pos))) (l.drop (pos+(Utf8.decode (str l) pos).2)):=by
    rw[ah8 fun a h=>Nat.le_of_lt (h3 a h),←T5 _ _ _ e4,←List.drop_drop,List.take_append_drop]
   rw[e1];simp only[Bool.false_eq_true,if_false];rw[key];cases st with
   |none=>
    simp only[Option.getD_none];exact ih _ _ acc e3 (by omega) fun a h=>by cases h;omega
   |some a=>
    have:=h3 a rfl;simp only[Option.getD_some];exact ih _ _ acc e3 (by omega) fun b h=>by cases h;omega
theorem adv(l:List UInt8):Lib.goFieldsP qq (str l)=(kh l).map str:=by
 unfold Lib.goFieldsP Lib.spansOfP;rw[aef l _ 0 none [] (Nat.zero_le _) (by rw[oF];omega) fun a h=>by cases h];simp[qS,kh]
def strs(l:List (List UInt8)):List Value:=l.map fun x=>.string (str x)
theorem aea(l:List (List UInt8)):(strs l).length=l.length:=by simp[strs]
theorem XY{l:List (List UInt8)}{i:Nat}{x:List UInt8}(h:l[i]?=some x):(strs l)[i]?=some (.string (str x)):=by simp[strs,h]
theorem adu(r:Nat)(w:World):aC prog 23 [.int .i32 (r:Nat)] w fun v w'=>v=.bool (qq r)∧w'=w:=by
 refine aG 5 func23 ?_;refine au ?_;by_cases h:r=32
 ·refine ye ?_;refine au ?_;exact ay func23 rfl ⟨by simp[qq,h],rfl⟩
 ·refine aL ?_;refine au ?_;exact ay func23 rfl ⟨by simp[qq,h],rfl⟩
def gz(w:World)(v:Value)(l:List (List UInt8)):Prop:=∃a cap,v=.slice a l.length cap∧l.length≤cap∧(0<l.length→∃b q,a=some ⟨b,q,none⟩∧b<w.heap.size∧w.rangeAt b q (strs l))
def NB(v:Value)(fp:List Nat):Prop:=∀b q n c,v=.slice (some ⟨b,q,none⟩) n c→0<n→b∉fp
section
variable{w w':World}{v:Value}{l:List (List UInt8)}
theorem gz.form(h:gz w v l):∃a cap,v=.slice a l.length cap∧l.length≤cap:=let⟨a,cap,h,h2,_⟩:=h;⟨a,cap,h,h2⟩
theorem gz.keep{fp:List Nat}(h:gz w v l)(hk:ae fp w w')(hn:NB v fp):gz w' v l:=by
 obtain⟨a,cap,rfl,h2,h3⟩:=h;refine⟨a,cap,rfl,h2,fun h0=>?_⟩;obtain⟨b,q,rfl,h4,h5⟩:=h3 h0;exact⟨b,q,rfl,Nat.lt_of_lt_of_le h4 hk.size,ft h5 hk h4 (hn b q _ _ rfl h0)⟩
theorem gz.aA(h:gz w v l)(hk:ae [] w w'):gz w' v l:=h.keep hk fun _ _ _ _ _ _=>by simp
theorem gz.at(h:gz w v l){i:Nat}{x:List UInt8}(hx:l[i]?=some x):∃b q cap,v=.slice (some ⟨b,q,none⟩) l.length cap∧b<w.heap.size∧w.cell? ⟨b,q+i,none⟩=some (.string (str x)):=by
 have hi:=(List.getElem?_eq_some_iff.1 hx).1;obtain⟨a,cap,h1,_,h3⟩:=h;obtain⟨b,q,rfl,h4,h5⟩:=h3 (by omega);exact⟨b,q,cap,h1,h4,h5 i _ (XY hx)⟩
theorem gz.nb{fp fp':List Nat}(h:gz w v l)(hn:NB v fp)(hf:∀k∈fp',k∈fp∨w.heap.size≤k):NB v fp':=fun b q n c he h0 hm=>by
 rcases hf b hm with h1|h1
 ·exact hn b q n c he h0 h1
 ·obtain⟨a,cap,rfl,_,h3⟩:=h;injection he with e1 e2 e3;obtain⟨b',q',e4,h4,_⟩:=h3 (by omega);rw[e4]at e1;injection e1 with e1;injection e1 with e1 _;omega
theorem gz.last{b q cap:Nat}(h:gz w (.slice (some ⟨b,q,none⟩) l.length cap) l){k:Nat}(hk:k≤l.length){ad:Option Addr}(hc:k<cap→ad=some ⟨b,q+k,none⟩):gz w (.slice ad (l.length-k) (cap-k)) (l.drop k):=by
 obtain⟨a',iF,h1,h2,h3⟩:=h;injection h1 with e1 _ e3;subst e1 e3;have hl:(l.drop k).length=l.length-k:=by simp
 refine⟨ad,cap-k,by rw[hl],by omega,fun h0=>?_⟩;obtain⟨b',q',e,h4,h5⟩:=h3 (by omega);injection e with e;injection e with e1 e2;subst e1 e2;refine⟨b,q+k,hc (by omega),h4,fun j u hu=>?_⟩;have:=h5 (k+j) u (by rw[←hu];simp[strs,List.getElem?_drop])
 rwa [←Nat.add_assoc]at this
end
theorem ae5(l:List UInt8)(hl:l.length≤1000000000)(w:World):aC prog 22 [.string (str l),.func (.func 23) #[] #[]] w fun r w'=>gz w' r (kh l)∧(∀b q n c,r=.slice (some ⟨b,q,none⟩) n c→w.heap.size≤b)∧ae [] w w':=by
 have hp:PredAtRunes prog 23 #[] qq w:=fun W x _ _=>by
  refine Calls.mono (adu x W) ?_;rintro e w'⟨v,rfl,rfl,rfl⟩;exact⟨rfl,0,rfl⟩
 refine Calls.mono (Any.strings_FieldsFunc_runes Tryz.ajV _ #[] (enters_of func23 (by kernel_rfl) rfl) qq (str l) w (by rw[oF];omega) hp (by kernel_rfl) (by kernel_rfl)) ?_;rintro e w'⟨A,rfl,hA,bW,hb⟩;rw[adv,List.length_map]at bW⊢;refine⟨_,rfl,⟨_,_,rfl,Nat.le_refl _,fun h0=>⟨A,0,rfl,?_,fun j u hu=>?_⟩⟩,fun b q n c h=>?_,Dl hb⟩
 ·exact(bW.lt A rfl).2
 ·have:=bW.cells (g:=A) rfl j u (by rw[List.map_map];exact hu)
  rwa [Addr.add_mid]at this
 ·injection h with h;injection h with h;injection h with h _;rw[←h];exact hA
theorem Zd:Builder.Extra prog Tryz.T4 where
 sizeBuilder:=by kernel_rfl
 liesBuilder:=by kernel_rfl
 t5:=underlying5
 a5:=isAgg5
 z5:=sizeOf5
 v5:=zeroValue5
 infoByte:=by kernel_rfl
 cellsByte:=by kernel_rfl
 sizeByte:=by kernel_rfl
 neB5:=by decide
theorem ahK{v:Value}{l:List (List UInt8)}{w:World}(h:gz w v l)(hl:(Lib.join l [10]).length≤1000000)(hn:l.length≤1000000):aC prog 97 [v,.string (str [10])] w fun r w'=>r=.string (str (Lib.join l [10]))∧ae [] w w':=by
 obtain⟨a,cap,rfl,h2,h3⟩:=h;have e:(l.map str).map (·.data.toList)=l:=by simp[Function.comp_def,rM]
 rcases Nat.eq_zero_or_pos l.length with h0|h0
 ·have:l=[]:=List.eq_nil_of_length_eq_zero h0;subst this;refine Calls.mono (Any.strings_Join_none Tryz.XZ Zd a cap (str [10]) w) ?_;rintro e w'⟨rfl,rfl⟩;exact⟨_,rfl,rfl,ae.refl _ _⟩
 ·obtain⟨b,q,rfl,h4,h5⟩:=h3 h0;have hc:=Any.strings_Join Tryz.XZ Zd b q cap (l.map str) (str [10]) w (fun j x hx=>h5 j _ (by
   rw[List.getElem?_map]at hx;obtain⟨y,hy,rfl⟩:=Option.map_eq_some_iff.1 hx;exact XY hy)) h4 (by simp;omega) (by simpa using h2) (by rw[e,rM];omega)
  rw[e,rM,List.length_map]at hc;refine Calls.mono hc ?_;rintro e w'⟨rfl,hb⟩;exact⟨_,rfl,rfl,Dl hb⟩
theorem ae4(l:List UInt8)(w:World):aC prog 20 [.string (str l),.string (str [124])] w fun r w'=>r=.tuple #[.string (str (Lib.trimPrefix l [124])),.bool (Lib.hasPrefix l [124])]∧w'=w:=by
 refine Calls.mono (Any.strings_CutPrefix Tryz.ajW (str l) (str [124]) w) ?_;rintro e w'⟨rfl,rfl⟩;rw[rM,rM];exact⟨_,rfl,rfl,rfl⟩
theorem ac9(l:List UInt8)(w:World):aC prog 19 [.string (str l),.string (str [10])] w fun r w'=>r=.bool (decide (0≤Lib.indexByte l 10))∧w'=w:=by
 refine Calls.mono (Any.strings_Contains_one Tryz.ajX (str l) 10 w) ?_;rintro e w'⟨rfl,rfl⟩;rw[rM];exact⟨_,rfl,rfl,rfl⟩
inductive ET where
 |mk(op v n:Int)(l:List ET)
inductive ST where
 |mk(op v:Int)(e f:ET)(b o:List ST)
def sR(F:Nat→Prop)(w:World)(k:Nat)(a:Option Addr)(len:Nat)(cc:Nat→List Value):Prop:=
 0<len→∃b q,a=some ⟨b,q,none⟩∧F b∧∀i,i<len→w.rangeAt b (q+i*k) (cc i)
inductive dY(F:Nat→Prop)(w:World):List Value→ET→Prop
 | mk {op v n:Int} {l:List ET} {a:Option Addr} {cap:Nat} (cc:Nat→List Value) (hr:sR F w 4 a l.length cc) (hc:∀i (h:i<l.length),dY F w (cc i) (l[i]'h)):
   dY F w [.int .i64 op,.int .i64 v,.int .i64 n,.slice a l.length cap] (.mk op v n l)
inductive iO(F:Nat→Prop)(w:World):List Value→ST→Prop
 | mk {op v:Int} {e f:ET} {ce cf:List Value} {b o:List ST} {ab ao:Option Addr} {bh lD:Nat} (cb co:Nat→List Value) (he:dY F w ce e) (hf:dY F w cf f)
   (hb:sR F w 12 ab b.length cb) (jK:∀i (h:i<b.length),iO F w (cb i) (b[i]'h))
   (ho:sR F w 12 ao o.length co) (hco:∀i (h:i<o.length),iO F w (co i) (o[i]'h)):
   iO F w ([.int .i64 op,.int .i64 v]++ce++cf++[.slice ab b.length bh,.slice ao o.length lD]) (.mk op v e f b o)
def eM(F:Nat→Prop)(w:World)(v:Value)(l:List ST):Prop:=
 ∃a cap cc,v=.slice a l.length cap∧sR F w 12 a l.length cc∧∀i (h:i<l.length),iO F w (cc i) (l[i]'h)
def lQ(F:Nat→Prop)(w:World)(v:Value)(l:List ET):Prop:=
 ∃a cap cc,v=.slice a l.length cap∧sR F w 4 a l.length cc∧∀i (h:i<l.length),dY F w (cc i) (l[i]'h)
section
variable{F F':Nat→Prop}{w w':World}{cs:List Value}
theorem dY.length{t:ET}(h:dY F w cs t):cs.length=4:=by cases h;rfl
theorem dY.one{t:ET}(h:dY F w cs t):∀u∈cs,u.oneCell'=true:=by
 cases h;intro u hu;simp at hu;rcases hu with rfl|rfl|rfl|rfl<;>rfl
theorem iO.length{t:ST}(h:iO F w cs t):cs.length=12:=by
 cases h with
 |mk cb co he hf=>simp[he.length,hf.length]
theorem iO.one{t:ST}(h:iO F w cs t):∀u∈cs,u.oneCell'=true:=by
 cases h with
 |mk cb co he hf=>
  intro u hu;simp only[List.mem_append,List.mem_cons,List.not_mem_nil,or_false]at hu;rcases hu with(((rfl|rfl)|hu)|hu)|(rfl|rfl)
  ·rfl
  ·rfl
  ·exact he.one u hu
  ·exact hf.one u hu
  ·rfl
  ·rfl
def oN(F:Nat→Prop)(w:World)(fp:List Nat):Prop:=∀k,F k→k<w.heap.size∧k∉fp
theorem sR.keep{k:Nat}{a:Option Addr}{len:Nat}{cc:Nat→List Value}{fp:List Nat}(h:sR F w k a len cc)(hk:ae fp w w')(hs:oN F w fp):sR F w' k a len cc:=fun h0=>by
 obtain⟨b,q,ha,hF,hr⟩:=h h0;refine⟨b,q,ha,hF,fun i hi j v hv=>?_⟩;rw[World.cell?_of_block (w:=w) (hk.block b (hs b hF).1 (hs b hF).2)];exact hr i hi j v hv
theorem sR.mono{k:Nat}{a:Option Addr}{len:Nat}{cc:Nat→List Value}(h:sR F w k a len cc)(hF:∀b,F b→F' b):sR F' w k a len cc:=fun h0=>by
 obtain⟨b,q,ha,hb,hr⟩:=h h0;exact⟨b,q,ha,hF b hb,hr⟩
theorem dY.keep{t:ET}{fp:List Nat}(h:dY F w cs t)(hk:ae fp w w')(hs:oN F w fp):dY F w' cs t:=by
 induction h with
 |mk cc hr _ ih=>exact .mk cc (hr.keep hk hs) ih
theorem dY.mono{t:ET}(h:dY F w cs t)(hF:∀b,F b→F' b):dY F' w cs t:=by
 induction h with
 |mk cc hr _ ih=>exact .mk cc (hr.mono hF) ih
theorem iO.keep{t:ST}{fp:List Nat}(h:iO F w cs t)(hk:ae fp w w')(hs:oN F w fp):iO F w' cs t:=by
 induction h with
 |mk cb co he hf hb _ ho _ S6 S7=>exact .mk cb co (he.keep hk hs) (hf.keep hk hs) (hb.keep hk hs) S6 (ho.keep hk hs) S7
theorem iO.mono{t:ST}(h:iO F w cs t)(hF:∀b,F b→F' b):iO F' w cs t:=by
 induction h with
 |mk cb co he hf hb _ ho _ S6 S7=>exact .mk cb co (he.mono hF) (hf.mono hF) (hb.mono hF) S6 (ho.mono hF) S7
theorem eM.keep{v:Value}{l:List ST}{fp:List Nat}(h:eM F w v l)(hk:ae fp w w')(hs:oN F w fp):eM F w' v l:=by
 obtain⟨a,cap,cc,hv,hr,hc⟩:=h;exact⟨a,cap,cc,hv,hr.keep hk hs,fun i hi=>(hc i hi).keep hk hs⟩
theorem eM.mono{v:Value}{l:List ST}(h:eM F w v l)(hF:∀b,F b→F' b):eM F' w v l:=by
 obtain⟨a,cap,cc,hv,hr,hc⟩:=h;exact⟨a,cap,cc,hv,hr.mono hF,fun i hi=>(hc i hi).mono hF⟩
theorem lQ.keep{v:Value}{l:List ET}{fp:List Nat}(h:lQ F w v l)(hk:ae fp w w')(hs:oN F w fp):lQ F w' v l:=by
 obtain⟨a,cap,cc,hv,hr,hc⟩:=h;exact⟨a,cap,cc,hv,hr.keep hk hs,fun i hi=>(hc i hi).keep hk hs⟩
theorem eM.at{v:Value}{l:List ST}(h:eM F w v l){i:Nat}{t:ST}(ht:l[i]?=some t):∃b q cap ci,v=.slice (some ⟨b,q,none⟩) l.length cap∧F b∧w.rangeAt b (q+i*12) ci∧iO F w ci t:=by
 obtain⟨a,cap,cc,hv,hr,hc⟩:=h;obtain⟨az,e⟩:=List.getElem?_eq_some_iff.1 ht;obtain⟨b,q,ha,hF,dD⟩:=hr (by omega);exact⟨b,q,cap,cc i,by rw[hv,ha],hF,dD i az,by rw[←e];exact hc i az⟩
theorem lQ.at{v:Value}{l:List ET}(h:lQ F w v l){i:Nat}{t:ET}(ht:l[i]?=some t):∃b q cap ci,v=.slice (some ⟨b,q,none⟩) l.length cap∧F b∧w.rangeAt b (q+i*4) ci∧dY F w ci t:=by
 obtain⟨a,cap,cc,hv,hr,hc⟩:=h;obtain⟨az,e⟩:=List.getElem?_eq_some_iff.1 ht;obtain⟨b,q,ha,hF,dD⟩:=hr (by omega);exact⟨b,q,cap,cc i,by rw[hv,ha],hF,dD i az,by rw[←e];exact hc i az⟩
theorem eM.form{v:Value}{l:List ST}(h:eM F w v l):∃a cap,v=.slice a l.length cap:=by
 obtain⟨a,cap,_,hv,_⟩:=h;exact⟨a,cap,hv⟩
theorem lQ.form{v:Value}{l:List ET}(h:lQ F w v l):∃a cap,v=.slice a l.length cap:=by
 obtain⟨a,cap,_,hv,_⟩:=h;exact⟨a,cap,hv⟩
theorem dY.inv{op v n:Int}{l:List ET}(h:dY F w cs (.mk op v n l)):∃lv,cs=[.int .i64 op,.int .i64 v,.int .i64 n,lv]∧lQ F w lv l:=by
 cases h with
 |mk cc hr hc=>exact⟨_,rfl,_,_,cc,rfl,hr,hc⟩
theorem dY.of{op v n:Int}{l:List ET}{lv:Value}(h:lQ F w lv l):dY F w [.int .i64 op,.int .i64 v,.int .i64 n,lv] (.mk op v n l):=by
 obtain⟨a,cap,cc,rfl,hr,hc⟩:=h;exact .mk cc hr hc
theorem iO.inv{op v:Int}{e f:ET}{b o:List ST}(h:iO F w cs (.mk op v e f b o)):∃ce cf bv ov,cs=[.int .i64 op,.int .i64 v]++ce++cf++[bv,ov]∧dY F w ce e∧dY F w cf f∧eM F w bv b∧eM F w ov o:=by
 cases h with
 |mk cb co he hf hb jK ho hco=>exact⟨_,_,_,_,rfl,he,hf,⟨_,_,cb,rfl,hb,jK⟩,⟨_,_,co,rfl,ho,hco⟩⟩
theorem iO.of{op v:Int}{e f:ET}{b o:List ST}{ce cf:List Value}{bv ov:Value}(he:dY F w ce e)(hf:dY F w cf f)(hb:eM F w bv b)(ho:eM F w ov o):iO F w ([.int .i64 op,.int .i64 v]++ce++cf++[bv,ov]) (.mk op v e f b o):=by
 obtain⟨a,cap,cc,rfl,hr,hc⟩:=hb;obtain⟨a',iF,cc',rfl,Ro,cG⟩:=ho;exact .mk cc cc' he hf hr hc Ro cG
theorem lQ.nil:lQ F w (.slice none 0 0) []:=⟨none,0,fun _=>[],rfl,fun h=>absurd h (by simp),fun i h=>by simp at h⟩
theorem eM.nil:eM F w (.slice none 0 0) []:=⟨none,0,fun _=>[],rfl,fun h=>absurd h (by simp),fun i h=>by simp at h⟩
end
mutual
def fO:ET→Nat
 |.mk _ _ _ l=>1+iH l
def iH:List ET→Nat
 |[]=>0
 |t::r=>fO t+iH r
end
mutual
def ll:ST→Nat
 |.mk _ _ e f b o=>1+fO e+fO f+cu b+cu o
def cu:List ST→Nat
 |[]=>0
 |t::r=>ll t+cu r
end
abbrev aJ:=ByteArray×Int
def partsOf(op:Int):Int:=if op=1∨op=2 then 0 else if op=3 then 1 else if 4≤op∧op≤8 then 2 else-1
def dw(op:Int):Bool:=op==1||op==2||op==3||op==5||op==6
def cY(op:Int):Bool:=op==2
def iA(op:Int):Bool:=op==1||op==2||op==4
def mn(op:Int):Bool:=op==5||op==6
def lz(op:Int):Bool:=op==6
def letter(c:UInt8):Bool:=decide (97≤c.toNat)&&decide (c.toNat≤122)
def mP(s:ByteArray):Bool:=s.data.toList.all letter&&decide (1≤s.size)&&decide (s.size≤8)
def wK(deep k:Nat):Except Int Nat:=if deep>12 then .error 4 else if k+1>150 then .error 3 else .ok (k+1)
def nR(nv:Nat)(v:Int)(has:Bool):Int:=if has then(if v<0∨v≥(nv:Int)then 1 else 0)else(if v≠0 then 5 else 0)
def j3:ET→Bool
 |.mk op v n l=>op==0&&v==0&&n==0&&l.isEmpty
def fC(x:Except Int Nat)(f:Nat→Except Int Nat):Except Int Nat:=match x with
 |.error c=>.error c
 |.ok k=>f k
def wU(nv:Nat)(op v n:Int)(len:Nat):Int:=
 if partsOf op<0 then 2 else if partsOf op≠(len:Int)then 5 else if op≠1∧n≠0 then 5 else nR nv v (op==2||op==3)
def wV(nv:Nat)(op v:Int)(e f:ET)(lb lo:Nat):Int:=
 if op<1∨op>7 then 2
 else if(!dw op&&!j3 e||!cY op&&!j3 f)=true then 5
 else if(!mn op&&decide (0<lb)||!lz op&&decide (0<lo))=true then 5
 else nR nv v (iA op)
mutual
def gO(nv:Nat):ET→Nat→Nat→Except Int Nat
 |.mk op v n l,deep,k=>fC (wK deep k) fun k1=>if wU nv op v n l.length≠0 then .error (wU nv op v n l.length)else eY nv l (deep+1) k1
def eY(nv:Nat):List ET→Nat→Nat→Except Int Nat
 |[],_,k=>.ok k
 |t::r,deep,k=>fC (gO nv t deep k) fun k1=>eY nv r deep k1
end
mutual
def kM(nv:Nat):ST→Nat→Nat→Except Int Nat
 | .mk op v e f b o,deep,k=>fC (wK deep k) fun k1=>if wV nv op v e f b.length o.length≠0 then .error (wV nv op v e f b.length o.length)else
   fC (if dw op then gO nv e (deep+1) k1 else .ok k1) fun k2=>fC (if cY op then gO nv f (deep+1) k2 else .ok k2) fun k3=>
    fC (dI nv b (deep+1) k3) fun k4=>dI nv o (deep+1) k4
def dI(nv:Nat):List ST→Nat→Nat→Except Int Nat
 |[],_,k=>.ok k
 |t::r,deep,k=>fC (kM nv t deep k) fun k1=>dI nv r deep k1
end
def tX:Except Int Nat→Int
 |.error c=>c
 |.ok _=>0
def jE(done:List ByteArray)(n:Int):List aJ→Int
 |[]=>0
 |x::r=>if mP x.1=false then 8 else if(done.any fun s=>s.toList==x.1.toList)=true then 9 else if x.2<1∨x.2>48∨n+x.2>48 then 1 else jE (done++[x.1]) (n+x.2) r
def dq(vs:List aJ)(body:List ST):Int:=
 if vs.length>8 then 3 else if jE [] 0 vs≠0 then jE [] 0 vs else tX (dI vs.length body 0 0)
def aT(vs:List aJ):Int:=(vs.map (·.2)).sum
def cellOf(vs:List aJ)(v:Int):Int:=aT (vs.take v.toNat)
theorem oG{x:Except Int Nat}{f:Nat→Except Int Nat}{k':Nat}(h:fC x f=.ok k'):∃k,x=.ok k∧f k=.ok k':=by
 cases x with
 |error c=>cases h
 |ok k=>exact⟨k,rfl,h⟩
theorem JG{deep k k':Nat}(h:wK deep k=.ok k'):k'=k+1∧deep≤12∧k+1≤150:=by
 unfold wK at h;split at h
 ·cases h
 ·split at h
  ·cases h
  ·injection h with h;omega
theorem agh{x:Except Int Nat}(h:tX x=0)(bS:∀c,x=.error c→c≠0):∃k,x=.ok k:=by
 cases x with
 |error c=>exact absurd h (bS c rfl)
 |ok k=>exact⟨k,rfl⟩
def qQ(x:Except Int Nat):Prop:=∀c,x=.error c→c≠0
theorem A4{x:Except Int Nat}{f:Nat→Except Int Nat}(hx:qQ x)(hf:∀k,qQ (f k)):qQ (fC x f):=by
 cases x with
 |error c=>exact fun c' h=>hx c' h
 |ok k=>exact hf k
theorem Bg(k:Nat):qQ (.ok k):=fun c h=>by cases h
theorem UD(d k:Nat):qQ (wK d k):=by
 unfold wK;split
 ·intro c h;cases h;decide
 ·split
  ·intro c h;cases h;decide
  ·exact Bg _
theorem TA{c:Int}{x:Except Int Nat}(hx:qQ x):qQ (if c≠0 then .error c else x):=by
 split
 ·rename_i h
  intro c' e;cases e;exact h
 ·exact hx
mutual
theorem DR(nv:Nat):∀t d k,qQ (gO nv t d k)
 |.mk op v n l,d,k=>by
  simp only[gO];exact A4 (UD d k) fun k1=>TA (J2 nv l _ _)
theorem J2(nv:Nat):∀l d k,qQ (eY nv l d k)
 |[],d,k=>by simp only[eY];exact Bg k
 |t::r,d,k=>by
  simp only[eY];exact A4 (DR nv t d k) fun k1=>J2 nv r d k1
end
theorem Jt{b:Bool}{x y:Except Int Nat}(hx:qQ x)(hy:qQ y):qQ (if b then x else y):=by cases b<;>assumption
mutual
theorem YK(nv:Nat):∀t d k,qQ (kM nv t d k)
 |.mk op v e f b o,d,k=>by
  simp only[kM];exact A4 (UD d k) fun k1=>TA (A4 (Jt (DR nv e _ _) (Bg _)) fun k2=>A4 (Jt (DR nv f _ _) (Bg _)) fun k3=>A4 (Bl nv b _ _) fun k4=>Bl nv o _ _)
theorem Bl(nv:Nat):∀l d k,qQ (dI nv l d k)
 |[],d,k=>by simp only[dI];exact Bg k
 |t::r,d,k=>by
  simp only[dI];exact A4 (YK nv t d k) fun k1=>Bl nv r d k1
end
theorem FB{vs:List aJ}{body:List ST}(h:dq vs body=0):vs.length≤8∧jE [] 0 vs=0∧∃k,dI vs.length body 0 0=.ok k:=by
 unfold dq at h;split at h
 ·cases h
 ·split at h
  ·rename_i h1
   exact absurd h h1
  ·rename_i h1 h2
   exact⟨by omega,by simpa using h2,agh h (Bl _ _ _ _)⟩
theorem Nr:∀{vs:List aJ} {done:List ByteArray} {n:Int},jE done n vs=0→(∀x∈vs,1≤x.2∧x.2≤48)∧(n≤48→n+aT vs≤48)
 |[],_,n,_=>by simp[aT]
 | x::r,done,n,h=>by
  unfold jE at h;split at h
  ·cases h
  ·split at h
   ·cases h
   ·split at h
    ·cases h
    ·rename_i h3
     obtain⟨h4,h5⟩:=Nr h;refine⟨fun y hy=>?_,fun _=>?_⟩
     ·rcases List.mem_cons.1 hy with rfl|hy
      ·omega
      ·exact h4 y hy
     ·have:=h5 (by omega);simp only[aT,List.map_cons,List.sum_cons]at this⊢;omega
theorem TY{vs:List aJ}(h:∀x∈vs,1≤x.2∧x.2≤48):0≤aT vs:=by
 induction vs with
 |nil=>simp[aT]
 |cons x r ih=>
  have h1:=h x (by simp);have h2:=ih fun y hy=>h y (List.mem_cons_of_mem _ hy);simp only[aT,List.map_cons,List.sum_cons]at h2⊢;omega
theorem TZ(a b:List aJ):aT (a++b)=aT a+aT b:=by simp[aT]
theorem A0{vs:List aJ}{i:Nat}{x:aJ}(h:vs[i]?=some x):aT (vs.take (i+1))=aT (vs.take i)+x.2:=by
 obtain⟨az,e⟩:=List.getElem?_eq_some_iff.1 h;rw[List.take_succ_eq_append_getElem az,TZ,e];simp[aT]
theorem TE{vs:List aJ}(h:∀x∈vs,1≤x.2∧x.2≤48){i j:Nat}(q_:i≤j):aT (vs.take i)≤aT (vs.take j):=by
 have e:vs.take j=vs.take i++(vs.take j).drop i:=by
  have e:=List.take_append_drop i (vs.take j);rw[List.take_take,Nat.min_eq_left q_]at e;exact e.symm
 rw[e,TZ];have:=TY (vs:=(vs.take j).drop i) fun x hx=>h x (List.mem_of_mem_take (List.mem_of_mem_drop hx));omega
abbrev Is:=Int×Int×Int×Int
def jk(vs:List aJ)(v:Int):Int:=(vs.getD v.toNat (⟨#[]⟩,0)).2
mutual
def ey(vs:List aJ):ET→List Is
 |.mk op v n l=>gr vs l++[(op,if op=2∨op=3 then cellOf vs v else 0,if op=3 then jk vs v else 0,n)]
def gr(vs:List aJ):List ET→List Is
 |[]=>[]
 |t::r=>ey vs t++gr vs r
end
def jB(vs:List aJ)(op v:Int):Is:=
 if op=1 then(9,cellOf vs v,0,0)else if op=2 then(10,cellOf vs v,jk vs v,0)else if op=3 then(11,0,0,0)else if op=4 then(12,cellOf vs v,0,0)else(15,0,0,0)
def qa(i0:Nat)(l b:List Is):List Is:=l++((13,((i0+l.length+1+b.length+1:Nat):Int),0,0)::(b++[(14,((i0:Nat):Int),0,0)]))
def rm(i0:Nat)(l b o:List Is):List Is:=l++((13,((i0+l.length+1+b.length+1:Nat):Int),0,0)::(b++((14,((i0+l.length+1+b.length+1+o.length:Nat):Int),0,0)::o)))
def eI(vs:List aJ)(op:Int)(e:ET):List Is:=if dw op then ey vs e else[]
def fI(vs:List aJ)(op:Int)(f:ET):List Is:=if cY op then ey vs f else[]
mutual
def fS(vs:List aJ):ST→Nat→List Is
 |.mk op v e f b o,i0=>
  if op=5 then qa i0 (eI vs op e) (cN vs b (i0+(eI vs op e).length+1))
  else if op=6 then rm i0 (eI vs op e) (cN vs b (i0+(eI vs op e).length+1)) (cN vs o (i0+(eI vs op e).length+1+(cN vs b (i0+(eI vs op e).length+1)).length+1))
  else eI vs op e++(fI vs op f++[jB vs op v])
def cN(vs:List aJ):List ST→Nat→List Is
 |[],_=>[]
 |t::r,i0=>fS vs t i0++cN vs r (i0+(fS vs t i0).length)
end
def bA:Is:=(16,0,0,0)
def bB(vs:List aJ)(b:List ST):List Is:=cN vs b 0++[bA]
def Gt(vs:List aJ)(b:List ST):List Is:=if dq vs b=0 then bB vs b else[]
theorem Tx(vs:List aJ):∀(a b:List ET),gr vs (a++b)=gr vs a++gr vs b
 |[],b=>by simp[gr]
 |t::r,b=>by simp only[List.cons_append,gr,Tx vs r b,List.append_assoc]
theorem Ty(vs:List aJ):∀(a b:List ST) (i0:Nat),cN vs (a++b) i0=cN vs a i0++cN vs b (i0+(cN vs a i0).length)
 |[],b,i0=>by simp[cN]
 |t::r,b,i0=>by
  simp only[List.cons_append,cN,Ty vs r b,List.append_assoc,List.length_append];rw[Nat.add_assoc]
theorem Uy(vs:List aJ){l:List ET}{i:Nat}{t:ET}(h:l[i]?=some t):gr vs (l.take (i+1))=gr vs (l.take i)++ey vs t:=by
 obtain⟨hi,rfl⟩:=List.getElem?_eq_some_iff.1 h;rw[List.take_succ_eq_append_getElem hi,Tx];simp[gr]
theorem Uz(vs:List aJ){l:List ST}{i:Nat}{t:ST}(h:l[i]?=some t)(i0:Nat):cN vs (l.take (i+1)) i0=cN vs (l.take i) i0++fS vs t (i0+(cN vs (l.take i) i0).length):=by
 obtain⟨hi,rfl⟩:=List.getElem?_eq_some_iff.1 h;rw[List.take_succ_eq_append_getElem hi,Ty];simp[cN]
mutual
theorem DJ(vs:List aJ):∀(t:ET),(ey vs t).length=fO t
 |.mk op v n l=>by simp[ey,fO,Dy vs l];omega
theorem Dy(vs:List aJ):∀(l:List ET),(gr vs l).length=iH l
 |[]=>by simp[gr,iH]
 |t::r=>by simp[gr,iH,DJ vs t,Dy vs r]
end
theorem O7(vs:List aJ)(op:Int)(e:ET):(eI vs op e).length≤fO e:=by
 unfold eI;split
 ·rw[DJ];exact Nat.le_refl _
 ·simp
theorem YF(vs:List aJ)(op:Int)(f:ET):(fI vs op f).length≤fO f:=by
 unfold fI;split
 ·rw[DJ];exact Nat.le_refl _
 ·simp
mutual
theorem Wj(vs:List aJ):∀(t:ST) (i0:Nat),(fS vs t i0).length≤2*ll t
 | .mk op v e f b o,i0=>by
  have h1:=O7 vs op e;have h2:=YF vs op f;have h3:=sC vs b (i0+(eI vs op e).length+1);have h4:=sC vs o (i0+(eI vs op e).length+1+(cN vs b (i0+(eI vs op e).length+1)).length+1);simp only[fS,ll];split
  ·simp[qa];omega
  ·split
   ·simp[rm];omega
   ·simp;omega
theorem sC(vs:List aJ):∀(l:List ST) (i0:Nat),(cN vs l i0).length≤2*cu l
 |[],_=>by simp[cN,cu]
 |t::r,i0=>by
  have h1:=Wj vs t i0;have h2:=sC vs r (i0+(fS vs t i0).length);simp only[cN,cu,List.length_append];omega
end
def iG(op:Int):Nat:=if op=3∨op=9∨op=11∨op=13 then 1 else if(4≤op∧op≤8)∨op=10 then 2 else 0
def kl(op:Int):Nat:=if 1≤op∧op≤8 then 1 else 0
structure xk(cells:Int)(n:Nat)(x:Is):Prop where
 pop:iG x.1≤n
 room:n-iG x.1+kl x.1≤24
 jump:x.1=13∨x.1=14→n-iG x.1+kl x.1=0
 halt:x.1≠16
 cell:x.1=2∨x.1=9∨x.1=12→0≤x.2.1∧x.2.1<cells
 many:x.1=3∨x.1=10→0≤x.2.1∧1≤x.2.2.1∧x.2.1+x.2.2.1≤cells
inductive db(cells:Int):Nat→List Is→Nat→Prop
 |nil (n:Nat):db cells n [] n
 |cons {n m:Nat} {x:Is} {r:List Is} (h:xk cells n x) (hr:db cells (n-iG x.1+kl x.1) r m):db cells n (x::r) m
theorem db.app{c:Int}{n m k:Nat}{a b:List Is}(h:db c n a m)(h':db c m b k):db c n (a++b) k:=by
 induction h with
 |nil=>exact h'
 |cons h _ ih=>exact .cons h (ih h')
theorem db.one{c:Int}{n:Nat}{x:Is}(h:xk c n x):db c n [x] (n-iG x.1+kl x.1):=.cons h (.nil _)
theorem db.wX{c:Int}{n m:Nat}{x:Is}(h:xk c n x)(hm:n-iG x.1+kl x.1=m):db c n [x] m:=hm▸db.one h
theorem db.det{c:Int}{n m m':Nat}{a:List Is}(h:db c n a m)(h':db c n a m'):m=m':=by
 induction h with
 |nil=>cases h';rfl
 |cons _ _ ih=>cases h' with|cons _ h2=>exact ih h2
theorem db.at{c:Int}{n m:Nat}{a:List Is}(h:db c n a m):∀(i:Nat),i≤a.length→∃k,db c n (a.take i) k∧∀x,a[i]?=some x→xk c k x∧db c n (a.take (i+1)) (k-iG x.1+kl x.1):=by
 induction h with
 |nil n=>intro i hi;exact⟨n,by simp only[List.take_nil];exact .nil n,fun x hx=>by simp at hx⟩
 | @cons n m x r hx hr ih=>
  intro i hi;cases i with
  |zero=>exact⟨n,.nil n,fun y hy=>by simp at hy;subst hy;exact⟨hx,by simp only[List.take_succ_cons,List.take_zero];exact db.one hx⟩⟩
  | succ i=>
   obtain⟨k,h1,h2⟩:=ih i (by simpa using hi);exact⟨k,.cons hx h1,fun y hy=>by
    obtain⟨h3,h4⟩:=h2 y (by simpa using hy);exact⟨h3,.cons hx h4⟩⟩
def vB(vs:List aJ):Prop:=∀x∈vs,1≤x.2
theorem N_:∀{vs:List aJ},vB vs→0≤aT vs
 |[],_=>by simp[aT]
 |x::r,h=>by
  have h1:=h x (by simp);have h2:=N_ (vs:=r) fun y hy=>h y (by simp[hy]);simp only[aT,List.map_cons,List.sum_cons]at h2⊢;omega
theorem Wl:∀(vs:List aJ),vB vs→∀(k:Nat),k<vs.length→0≤aT (vs.take k)∧1≤(vs.getD k (⟨#[]⟩,0)).2∧aT (vs.take k)+(vs.getD k (⟨#[]⟩,0)).2≤aT vs
 |[],_,k,hk=>by simp at hk
 |x::r,h,0,_=>by
  have h1:=h x (by simp);have h2:=N_ (vs:=r) fun y hy=>h y (by simp[hy]);simp only[aT,List.take_zero,List.map_nil,List.sum_nil,List.map_cons,List.sum_cons,List.getD_cons_zero]at h2⊢;omega
 |x::r,h,k+1,hk=>by
  have h1:=h x (by simp);have ih:=Wl r (fun y hy=>h y (by simp[hy])) k (by simpa using hk);simp only[aT,List.take_succ_cons,List.map_cons,List.sum_cons,List.getD_cons_succ]at ih⊢;omega
theorem Gg{vs:List aJ}(h:vB vs){v:Int}(hv:v.toNat<vs.length):0≤cellOf vs v∧1≤jk vs v∧cellOf vs v+jk vs v≤aT vs:=Wl vs h _ hv
def fK:ET:=.mk 0 0 0 []
theorem DE{nv:Nat}{op v n:Int}{l:List ET}{d k k':Nat}(h:gO nv (.mk op v n l) d k=.ok k'):d≤12∧wU nv op v n l.length=0∧∃k1,eY nv l (d+1) k1=.ok k':=by
 simp only[gO]at h;obtain⟨k1,h1,h2⟩:=oG h;split at h2
 ·cases h2
 ·rename_i h3
  exact⟨(JG h1).2.1,by simpa using h3,k1,h2⟩
theorem Du{nv:Nat}{t:ET}{r:List ET}{d k k':Nat}(h:eY nv (t::r) d k=.ok k'):(∃k1,gO nv t d k=.ok k1)∧∃k1,eY nv r d k1=.ok k':=by
 simp only[eY]at h;obtain⟨k1,h1,h2⟩:=oG h;exact⟨⟨k1,h1⟩,k1,h2⟩
theorem DG{nv:Nat}{op v:Int}{e f:ET}{b o:List ST}{d k k':Nat}(h:kM nv (.mk op v e f b o) d k=.ok k'):d≤12∧wV nv op v e f b.length o.length=0∧(dw op=true→∃k1 k2,gO nv e (d+1) k1=.ok k2)∧(cY op=true→∃k1 k2,gO nv f (d+1) k1=.ok k2)∧(∃k1 k2,dI nv b (d+1) k1=.ok k2)∧∃k1 k2,dI nv o (d+1) k1=.ok k2:=by
 simp only[kM]at h;obtain⟨k1,h1,h2⟩:=oG h;split at h2
 ·cases h2
 ·rename_i h3
  obtain⟨k2,h4,h5⟩:=oG h2;obtain⟨k3,h6,h7⟩:=oG h5;obtain⟨k4,h8,h9⟩:=oG h7;refine⟨(JG h1).2.1,by simpa using h3,fun he=>⟨k1,k2,?_⟩,fun hf=>⟨k2,k3,?_⟩,⟨_,_,h8⟩,_,_,h9⟩
  ·rw[if_pos he]at h4;exact h4
  ·rw[if_pos hf]at h6;exact h6
theorem Dw{nv:Nat}{t:ST}{r:List ST}{d k k':Nat}(h:dI nv (t::r) d k=.ok k'):(∃k1,kM nv t d k=.ok k1)∧∃k1,dI nv r d k1=.ok k':=by
 simp only[dI]at h;obtain⟨k1,h1,h2⟩:=oG h;exact⟨⟨k1,h1⟩,k1,h2⟩
theorem XG{nv:Nat}{v:Int}(h:nR nv v true=0):0≤v∧v.toNat<nv:=by
 unfold nR at h;rw[if_pos rfl]at h;split at h
 ·cases h
 ·omega
theorem XH{nv:Nat}{v:Int}(h:nR nv v false=0):v=0:=by
 unfold nR at h;rw[if_neg (by decide)]at h;split at h
 ·cases h
 ·omega
theorem DF{nv:Nat}{op v n:Int}{len:Nat}(h:wU nv op v n len=0):1≤op∧op≤8∧partsOf op=(len:Int)∧(op≠1→n=0)∧(op=2∨op=3→0≤v∧v.toNat<nv)∧(¬(op=2∨op=3)→v=0):=by
 unfold wU at h;split at h
 ·cases h
 ·rename_i h1
  split at h
  ·cases h
  ·rename_i h2
   split at h
   ·cases h
   ·rename_i h3
    have vy:1≤op∧op≤8:=by
     unfold partsOf at h1;split at h1
     ·omega
     ·split at h1
      ·omega
      ·split at h1<;>omega
    refine⟨vy.1,vy.2,by simpa using h2,fun h4=>?_,fun h4=>?_,fun h4=>?_⟩
    ·by_cases hn:n=0
     ·exact hn
     ·exact absurd ⟨h4,hn⟩ h3
    ·have e:(op==2||op==3)=true:=by simpa using h4
     rw[e]at h;exact XG h
    ·have e:(op==2||op==3)=false:=by
      cases hb:(op==2||op==3)with
      |false=>rfl
      |true=>exact absurd (by simpa using hb) h4
     rw[e]at h;exact XH h
theorem Wh{t:ET}(h:j3 t=true):t=fK:=by
 obtain⟨op,v,n,l⟩:=t;simp only[j3,Bool.and_eq_true,beq_iff_eq,List.isEmpty_iff]at h;obtain⟨⟨⟨rfl,rfl⟩,rfl⟩,rfl⟩:=h;rfl
theorem DH{nv:Nat}{op v:Int}{e f:ET}{lb lo:Nat}(h:wV nv op v e f lb lo=0):1≤op∧op≤7∧(dw op=false→e=fK)∧(cY op=false→f=fK)∧(mn op=false→lb=0)∧(lz op=false→lo=0)∧(iA op=true→0≤v∧v.toNat<nv)∧(iA op=false→v=0):=by
 unfold wV at h;split at h
 ·cases h
 ·rename_i h1
  split at h
  ·cases h
  ·rename_i h2
   split at h
   ·cases h
   ·rename_i h3
    simp only[Bool.or_eq_true,Bool.and_eq_true,Bool.not_eq_true',not_or,not_and,Bool.not_eq_false]at h2;simp only[Bool.or_eq_true,Bool.and_eq_true,Bool.not_eq_true',not_or,not_and,decide_eq_true_eq]at h3;refine⟨by omega,by omega,fun h4=>Wh (h2.1 h4),fun h4=>Wh (h2.2 h4),fun h4=>by have:=h3.1 h4;omega,fun h4=>by have:=h3.2 h4;omega,fun h4=>?_,fun h4=>?_⟩
    ·rw[h4]at h;exact XG h
    ·rw[h4]at h;exact XH h
section
variable{c A B:Int}
theorem J1(c A:Int):xk c 1 (13,A,0,0):=⟨by show iG 13≤1;decide,by show 1-iG 13+kl 13≤24;decide,fun _=>by show 1-iG 13+kl 13=0;decide,by show(13:Int)≠16;decide,fun hc=>absurd hc (by show¬((13:Int)=2∨(13:Int)=9∨(13:Int)=12);decide),fun hc=>absurd hc (by show¬((13:Int)=3∨(13:Int)=10);decide)⟩
theorem OE(c A:Int):xk c 0 (14,A,0,0):=⟨by show iG 14≤0;decide,by show 0-iG 14+kl 14≤24;decide,fun _=>by show 0-iG 14+kl 14=0;decide,by show(14:Int)≠16;decide,fun hc=>absurd hc (by show¬((14:Int)=2∨(14:Int)=9∨(14:Int)=12);decide),fun hc=>absurd hc (by show¬((14:Int)=3∨(14:Int)=10);decide)⟩
theorem akU(h0:0≤A)(h1:A<c):xk c 1 (9,A,0,0):=⟨by show iG 9≤1;decide,by show 1-iG 9+kl 9≤24;decide,fun hc=>absurd hc (by show¬((9:Int)=13∨(9:Int)=14);decide),by show(9:Int)≠16;decide,fun _=>⟨h0,h1⟩,fun hc=>absurd hc (by show¬((9:Int)=3∨(9:Int)=10);decide)⟩
theorem ajB(h0:0≤A)(h1:A<c):xk c 0 (12,A,0,0):=⟨by show iG 12≤0;decide,by show 0-iG 12+kl 12≤24;decide,fun hc=>absurd hc (by show¬((12:Int)=13∨(12:Int)=14);decide),by show(12:Int)≠16;decide,fun _=>⟨h0,h1⟩,fun hc=>absurd hc (by show¬((12:Int)=3∨(12:Int)=10);decide)⟩
theorem akV(h0:0≤A)(h1:1≤B)(h2:A+B≤c):xk c 2 (10,A,B,0):=⟨by show iG 10≤2;decide,by show 2-iG 10+kl 10≤24;decide,fun hc=>absurd hc (by show¬((10:Int)=13∨(10:Int)=14);decide),by show(10:Int)≠16;decide,fun hc=>absurd hc (by show¬((10:Int)=2∨(10:Int)=9∨(10:Int)=12);decide),fun _=>⟨h0,h1,h2⟩⟩
end
section
variable{vs:List aJ}
theorem Wm{op:Int}{len:Nat}(h:partsOf op=(len:Int)):len≤2∧(op=1∨op=2→len=0)∧(op=3→len=1)∧(4≤op→len=2):=by
 unfold partsOf at h;split at h
 ·omega
 ·split at h
  ·omega
  ·split at h<;>omega
mutual
theorem Gy(hB:vB vs):∀(t:ET) {d k k':Nat},gO vs.length t d k=.ok k'→∀(n:Nat),n+(13-d)≤24→db (aT vs) n (ey vs t) (n+1)
 | .mk op v m l,d,k,k',h,n,hn=>by
  obtain⟨hd,h1,k1,h2⟩:=DE h;obtain⟨a1,a2,a3,_,a5,_⟩:=DF h1;obtain⟨p1,p2,p3,p4⟩:=Wm a3;have ih:=YG hB l h2 n (by omega);simp only[ey];refine ih.app ?_;have vy:op=1∨op=2∨op=3∨(4≤op∧op≤8):=by omega
  have arC:iG op=l.length:=by
   unfold iG;split
   ·rename_i hc
    have:op=3:=by omega
    rw[p3 this]
   ·split
    ·rename_i hc
     rw[p4 (by omega)]
    ·rw[p2 (by omega)]
  have ari:kl op=1:=by
   unfold kl;rw[if_pos (by omega)]
  refine db.wX ⟨?_,?_,fun hj=>?_,?_,fun hc=>?_,fun hc=>?_⟩ ?_
  ·show iG op≤_;omega
  ·show n+l.length-iG op+kl op≤24;have:1≤13-d:=by omega
   omega
  ·exact absurd hj (by simp only;omega)
  ·show op≠16;omega
  ·have h2:op=2:=by simp only at hc;omega
   obtain⟨c1,c2,c3⟩:=Gg hB (a5 (.inl h2)).2;simp only;rw[if_pos (.inl h2)];omega
  ·have h3:op=3:=by simp only at hc;omega
   obtain⟨c1,c2,c3⟩:=Gg hB (a5 (.inr h3)).2;simp only;rw[if_pos (.inr h3),if_pos h3];omega
  ·show n+l.length-iG op+kl op=n+1;omega
theorem YG(hB:vB vs):∀(l:List ET) {d k k':Nat},eY vs.length l d k=.ok k'→∀(n:Nat),n+l.length+(13-d)≤25→db (aT vs) n (gr vs l) (n+l.length)
 |[],_,_,_,_,n,_=>by simp only[gr,List.length_nil,Nat.add_zero];exact .nil n
 |t::r,d,k,k',h,n,hn=>by
  obtain⟨⟨k1,h1⟩,k2,h2⟩:=Du h;simp only[List.length_cons]at hn;have i1:=Gy hB t h1 n (by omega);have i2:=YG hB r h2 (n+1) (by omega);simp only[gr,List.length_cons];have e:n+(r.length+1)=n+1+r.length:=by omega
  rw[e];exact i1.app i2
end
mutual
theorem PC(hB:vB vs):∀(t:ST) {d k k':Nat},kM vs.length t d k=.ok k'→∀(i0:Nat),db (aT vs) 0 (fS vs t i0) 0
 | .mk op v e f b o,d,k,k',h,i0=>by
  obtain⟨hd,h1,h2,h3,⟨k1,k2,h4⟩,k3,k4,h5⟩:=DG h;obtain⟨a1,a2,_,_,_,_,a7,_⟩:=DH h1;have se:db (aT vs) 0 (eI vs op e) (if dw op then 1 else 0):=by
   unfold eI;cases hn:dw op with
   |false=>exact .nil 0
   |true=>
    obtain⟨_,_,hc⟩:=h2 hn;exact Gy hB e hc 0 (by omega)
  have sb:=fun i=>DQ hB b h4 i;have so:=fun i=>DQ hB o h5 i;simp only[fS];split
  ·rename_i h6
   subst h6;have pQ:db (aT vs) 0 (eI vs 5 e) 1:=se;unfold qa;exact pQ.app (.cons (J1 _ _) ((sb _).app (db.wX (OE _ _) rfl)))
  ·split
   ·rename_i h6
    subst h6;have pQ:db (aT vs) 0 (eI vs 6 e) 1:=se;unfold rm;exact pQ.app (.cons (J1 _ _) ((sb _).app (.cons (OE _ _) (so _))))
   ·have vy:op=1∨op=2∨op=3∨op=4∨op=7:=by omega
    rcases vy with rfl|rfl|rfl|rfl|rfl
    ·obtain⟨c1,c2,c3⟩:=Gg hB (a7 rfl).2;have pQ:db (aT vs) 0 (eI vs 1 e) 1:=se;refine pQ.app (db.wX (akU c1 (by omega)) rfl)
    ·obtain⟨c1,c2,c3⟩:=Gg hB (a7 rfl).2;have pQ:db (aT vs) 0 (eI vs 2 e) 1:=se;obtain⟨_,_,hc⟩:=h3 rfl;have sf:db (aT vs) 1 (fI vs 2 f) 2:=Gy hB f hc 1 (by omega);refine pQ.app (sf.app (db.wX (akV c1 c2 c3) rfl))
    ·have pQ:db (aT vs) 0 (eI vs 3 e) 1:=se;refine pQ.app (db.wX (x:=(11,0,0,0)) ⟨by decide,by decide,fun hc=>absurd hc (by decide),by decide,fun hc=>absurd hc (by decide),fun hc=>absurd hc (by decide)⟩ (by decide))
    ·obtain⟨c1,c2,c3⟩:=Gg hB (a7 rfl).2;have pQ:db (aT vs) 0 (eI vs 4 e) 0:=se;refine pQ.app (db.wX (ajB c1 (by omega)) rfl)
    ·have pQ:db (aT vs) 0 (eI vs 7 e) 0:=se;refine pQ.app (db.wX (x:=(15,0,0,0)) ⟨by decide,by decide,fun hc=>absurd hc (by decide),by decide,fun hc=>absurd hc (by decide),fun hc=>absurd hc (by decide)⟩ (by decide))
theorem DQ(hB:vB vs):∀(l:List ST) {d k k':Nat},dI vs.length l d k=.ok k'→∀(i0:Nat),db (aT vs) 0 (cN vs l i0) 0
 |[],_,_,_,_,_=>.nil 0
 |t::r,d,k,k',h,i0=>by
  obtain⟨⟨k1,h1⟩,k2,h2⟩:=Dw h;exact(PC hB t h1 i0).app (DQ hB r h2 _)
end
def tE(c:Int)(i0:Nat)(l:List Is)(x:Is):Prop:=∃k:Nat,x.2.1=((i0+k:Nat):Int)∧k≤l.length∧db c 0 (l.take k) 0
def u2(c:Int)(i0:Nat)(l:List Is):Prop:=∀x∈l,x.1=13∨x.1=14→tE c i0 l x
theorem tE.right{c:Int}{i0:Nat}{a b:List Is}{x:Is}(h:tE c i0 a x):tE c i0 (a++b) x:=by
 obtain⟨k,h1,h2,h3⟩:=h;exact⟨k,h1,by simp;omega,by rw[List.take_append_of_le_length h2];exact h3⟩
theorem tE.left{c:Int}{i0:Nat}{a b:List Is}{x:Is}(ha:db c 0 a 0)(h:tE c (i0+a.length) b x):tE c i0 (a++b) x:=by
 obtain⟨k,h1,h2,h3⟩:=h;refine⟨a.length+k,by rw[h1];congr 1;omega,by simp;omega,?_⟩;rw[List.take_append,List.take_of_length_le (by omega)];have e:a.length+k-a.length=k:=by omega
 rw[e];exact ha.app h3
theorem u2.app{c:Int}{i0:Nat}{a b:List Is}(ha:db c 0 a 0)(h:u2 c i0 a)(h':u2 c (i0+a.length) b):u2 c i0 (a++b):=fun x hx hj=>by
 rcases List.mem_append.1 hx with hx|hx
 ·exact(h x hx hj).right
 ·exact(h' x hx hj).left ha
mutual
theorem PD:∀(t:ET) {d k k':Nat},gO vs.length t d k=.ok k'→∀x∈ey vs t,x.1≤8
 |.mk op v m l,d,k,k',h,x,hx=>by
  obtain⟨hd,h1,k1,h2⟩:=DE h;obtain⟨a1,a2,_⟩:=DF h1;simp only[ey,List.mem_append,List.mem_singleton]at hx;rcases hx with hx|rfl
  ·exact YH l h2 x hx
  ·exact a2
theorem YH:∀(l:List ET) {d k k':Nat},eY vs.length l d k=.ok k'→∀x∈gr vs l,x.1≤8
 |[],_,_,_,_,x,hx=>by simp[gr]at hx
 |t::r,d,k,k',h,x,hx=>by
  obtain⟨⟨k1,h1⟩,k2,h2⟩:=Du h;simp only[gr,List.mem_append]at hx;rcases hx with hx|hx
  ·exact PD t h1 x hx
  ·exact YH r h2 x hx
end
mutual
theorem alH(hB:vB vs):∀(t:ST) {d k k':Nat},kM vs.length t d k=.ok k'→∀(i0:Nat),u2 (aT vs) i0 (fS vs t i0)
 | .mk op v e f b o,d,k,k',h,i0=>by
  have mX:=PC hB (.mk op v e f b o) h i0;obtain⟨hd,h1,h2,h3,⟨k1,k2,h4⟩,k3,k4,h5⟩:=DG h;obtain⟨a1,a2,_,_,_,_,a7,_⟩:=DH h1;have ne:∀x∈eI vs op e,x.1≤8:=by
   unfold eI;split
   ·rename_i hn
    obtain⟨_,_,hc⟩:=h2 hn;exact PD e hc
   ·simp
  have nf:∀x∈fI vs op f,x.1≤8:=by
   unfold fI;split
   ·rename_i hn
    obtain⟨_,_,hc⟩:=h3 hn;exact PD f hc
   ·simp
  have sb:=fun i=>DQ hB b h4 i;have so:=fun i=>DQ hB o h5 i;have jb:=fun i=>Kj hB b h4 i;have jo:=fun i=>Kj hB o h5 i;have whole:tE (aT vs) i0 (fS vs (.mk op v e f b o) i0) (14,((i0+(fS vs (.mk op v e f b o) i0).length:Nat):Int),0,0):=⟨_,rfl,Nat.le_refl _,by rw[List.take_length];exact mX⟩;have akW:∀l,tE (aT vs) i0 l (14,((i0:Nat):Int),0,0):=fun l=>⟨0,by simp,by omega,by simp only[List.take_zero];exact .nil 0⟩;simp only[fS]at mX whole⊢;split
  ·rename_i h6
   subst h6;rw[if_pos rfl]at mX whole;obtain⟨E,hE⟩:∃E,E=eI vs 5 e:=⟨_,rfl⟩;rw[←hE]at mX whole ne⊢;obtain⟨X,hX⟩:∃X,X=cN vs b (i0+E.length+1):=⟨_,rfl⟩;have sX:=sb (i0+E.length+1);have jX:=jb (i0+E.length+1);rw[←hX]at mX whole sX jX⊢;have KF:db (aT vs) 0 (E++[(13,((i0+E.length+1+X.length+1:Nat):Int),0,0)]) 0:=by
    have pQ:db (aT vs) 0 E 1:=by
     rw[hE];unfold eI;obtain⟨_,_,hc⟩:=h2 rfl;exact Gy hB e hc 0 (by omega)
    exact pQ.app (db.wX (J1 _ _) rfl)
   have ew:qa i0 E X=(E++[(13,((i0+E.length+1+X.length+1:Nat):Int),0,0)])++(X++[(14,((i0:Nat):Int),0,0)]):=by simp[qa]
   have lw:(qa i0 E X).length=E.length+1+X.length+1:=by simp[qa];omega
   intro x hx hj;have rp:=hx;simp only[qa,List.mem_append,List.mem_cons,List.not_mem_nil,or_false]at rp;rcases rp with rp|rfl|rp|rfl
   ·have:=ne x rp;omega
   ·obtain⟨q,q1,q2,q3⟩:=whole;exact⟨(qa i0 E X).length,by rw[lw];simp only;congr 1;omega,Nat.le_refl _,by rw[List.take_length];exact mX⟩
   ·have:=(jX x rp hj).right (b:=[(14,((i0:Nat):Int),0,0)]);rw[ew];refine tE.left KF ?_;have el:i0+(E++[(13,((i0+E.length+1+X.length+1:Nat):Int),0,0)]:List Is).length=i0+E.length+1:=by simp;omega
    rw[el];exact this
   ·exact akW _
  ·split
   ·rename_i RM h6
    subst h6;rw[if_neg (by decide),if_pos rfl]at mX whole;obtain⟨E,hE⟩:∃E,E=eI vs 6 e:=⟨_,rfl⟩;rw[←hE]at mX whole ne⊢;obtain⟨X,hX⟩:∃X,X=cN vs b (i0+E.length+1):=⟨_,rfl⟩;have sX:=sb (i0+E.length+1);have jX:=jb (i0+E.length+1);rw[←hX]at mX whole sX jX⊢;obtain⟨Y,hY⟩:∃Y,Y=cN vs o (i0+E.length+1+X.length+1):=⟨_,rfl⟩;have sY:=so (i0+E.length+1+X.length+1);have jY:=jo (i0+E.length+1+X.length+1);rw[←hY]at mX whole sY jY⊢;obtain⟨H,hH⟩:∃H:List Is,H=E++[(13,((i0+E.length+1+X.length+1:Nat):Int),0,0)]:=⟨_,rfl⟩;obtain⟨J,hJ⟩:∃J:Is,J=(14,((i0+E.length+1+X.length+1+Y.length:Nat):Int),0,0):=⟨_,rfl⟩;have KF:db (aT vs) 0 H 0:=by
     have pQ:db (aT vs) 0 E 1:=by
      rw[hE];unfold eI;obtain⟨_,_,hc⟩:=h2 rfl;exact Gy hB e hc 0 (by omega)
     rw[hH];exact pQ.app (db.wX (J1 _ _) rfl)
    have RN:H.length=E.length+1:=by rw[hH];simp
    have sJ:db (aT vs) 0 [J] 0:=by
     rw[hJ];exact db.wX (OE _ _) rfl
    have ew:rm i0 E X Y=(H++(X++[J]))++Y:=by rw[hH,hJ];simp[rm]
    have lw:(rm i0 E X Y).length=E.length+1+X.length+1+Y.length:=by rw[ew];simp[RN];omega
    have sHX:db (aT vs) 0 (H++(X++[J])) 0:=KF.app (sX.app sJ);have lHX:(H++(X++[J])).length=E.length+1+X.length+1:=by simp[RN];omega
    intro x hx hj;have rp:=hx;simp only[rm,List.mem_append,List.mem_cons]at rp;rcases rp with rp|rfl|rp|rfl|rp
    ·have:=ne x rp;omega
    ·refine⟨E.length+1+X.length+1,by simp only;congr 1;omega,by omega,?_⟩;rw[ew,List.take_append_of_le_length (by omega),List.take_of_length_le (by omega)];exact sHX
    ·have h7:=(jX x rp hj).right (b:=[J]);rw[ew];refine tE.right (tE.left KF ?_);rw[RN];exact h7
    ·exact⟨(rm i0 E X Y).length,by rw[lw];simp only;congr 1;omega,Nat.le_refl _,by rw[List.take_length];exact mX⟩
    ·have h7:=jY x rp hj;rw[ew];refine tE.left sHX ?_;rw[lHX];have e7:i0+(E.length+1+X.length+1)=i0+E.length+1+X.length+1:=by omega
     rw[e7];exact h7
   ·intro x hx hj;simp only[List.mem_append,List.mem_singleton]at hx;rcases hx with hx|hx|rfl
    ·have:=ne x hx;omega
    ·have:=nf x hx;omega
    ·exfalso;unfold jB at hj
     repeat' split at hj
     all_goals simp at hj
theorem Kj(hB:vB vs):∀(l:List ST) {d k k':Nat},dI vs.length l d k=.ok k'→∀(i0:Nat),u2 (aT vs) i0 (cN vs l i0)
 |[],_,_,_,_,_=>fun x hx=>by simp[cN]at hx
 |t::r,d,k,k',h,i0=>by
  obtain⟨⟨k1,h1⟩,k2,h2⟩:=Dw h;exact u2.app (PC hB t h1 i0) (alH hB t h1 i0) (Kj hB r h2 _)
end
end
structure Md where
 next:Nat
 stack:List Int
 read:Nat
 out:Nat
 state:Nat
 cells:List Int
abbrev Pr:=List Int×Bool
def ko(p:Pr)(k:Nat)(n:Int):Pr:=if k=p.1.length then(p.1++[n],p.2)else if p.1[k]?=some n then p else(p.1,true)
def aR(s:List Int):Int:=s.getLastD 0
def sT(b:Bool):Int:=if b then 1 else 0
def mq(op z y:Int):Int:=if op=4 then IntKind.i64.wrap (z+y)else if op=5 then IntKind.i64.wrap (z-y)else if op=6 then IntKind.i64.wrap (z*y)else if op=7 then sT (decide (z<y))else sT (z==y)
def cellAt(l:List Int)(k:Int):Int:=l.getD k.toNat 0
def bu(inp:List Int)(x:Is)(m:Md)(p:Pr):Md×Pr:=
 if x.1=1 then({m with next:=m.next+1,stack:=m.stack++[x.2.2.2]},p)
 else if x.1=2 then({m with next:=m.next+1,stack:=m.stack++[cellAt m.cells x.2.1]},p)
 else if x.1=3 then
  (if 0≤aR m.stack∧aR m.stack<x.2.2.1 then({m with next:=m.next+1,stack:=m.stack.dropLast++[cellAt m.cells (x.2.1+aR m.stack)]},p)
  else({m with next:=m.next+1,stack:=m.stack.dropLast,state:=13},p))
 else if 4≤x.1∧x.1≤8 then({m with next:=m.next+1,stack:=m.stack.dropLast.dropLast++[mq x.1 (aR m.stack.dropLast) (aR m.stack)]},p)
 else if x.1=9 then({m with next:=m.next+1,stack:=m.stack.dropLast,cells:=m.cells.set x.2.1.toNat (aR m.stack)},p)
 else if x.1=10 then
  (if 0≤aR m.stack.dropLast∧aR m.stack.dropLast<x.2.2.1 then({m with next:=m.next+1,stack:=m.stack.dropLast.dropLast,cells:=m.cells.set (x.2.1+aR m.stack.dropLast).toNat (aR m.stack)},p)
  else({m with next:=m.next+1,stack:=m.stack.dropLast.dropLast,state:=13},p))
 else if x.1=11 then({m with next:=m.next+1,stack:=m.stack.dropLast,out:=m.out+1},ko p m.out (aR m.stack))
 else if x.1=12 then
  (if m.read<inp.length then({m with next:=m.next+1,cells:=m.cells.set x.2.1.toNat (inp.getD m.read 0),read:=m.read+1},p)
  else({m with next:=m.next+1,state:=14},p))
 else if x.1=13 then({m with next:=if aR m.stack=0 then x.2.1.toNat else m.next+1,stack:=m.stack.dropLast},p)
 else if x.1=14 then({m with next:=x.2.1.toNat},p)
 else if x.1=16 then({m with next:=m.next+1,state:=1},p)
 else({m with next:=m.next+1},p)
def eD(W:List Is)(inp:List Int)(m:Md)(p:Pr):Md×Pr:=if m.state=0 then bu inp (W.getD m.next (0,0,0,0)) m p else(m,p)
def eG(W:List Is)(m:Md):Bool:=decide (m.state=0)&&decide ((W.getD m.next (0,0,0,0)).1=15)
def gL(c:Nat):Md:=⟨0,[],0,0,0,List.replicate c 0⟩
structure Fit(c:Int)(Q:List Is)(m:Md)(p:Pr):Prop where
 cells:(m.cells.length:Int)=c
 out:m.out≤p.1.length
 next:m.state=0→m.next≤Q.length
 rk:m.state=0→db c 0 (Q.take m.next) m.stack.length
theorem ahv(p:Pr)(k:Nat)(n:Int):p.1.length≤(ko p k n).1.length∧(k≤p.1.length→k+1≤(ko p k n).1.length):=by
 unfold ko;split
 ·simp only[List.length_append,List.length_cons,List.length_nil];omega
 ·split
  ·exact⟨Nat.le_refl _,fun h=>by omega⟩
  ·exact⟨Nat.le_refl _,fun h=>by show k+1≤p.1.length;omega⟩
theorem amH{c:Nat}{Q:List Is}(p:Pr):Fit c Q (gL c) p:=⟨by simp[gL],by simp[gL],fun _=>by simp[gL],fun _=>by simp only[gL,List.take_zero];exact .nil 0⟩
def amI(c:Int)(Q:List Is)(n k:Nat)(x:Is):Prop:=(n<Q.length∧Q[n]?=some x∧xk c k x∧db c 0 (Q.take (n+1)) (k-iG x.1+kl x.1))∨(n=Q.length∧x=bA∧k=0)
theorem OA{c:Int}{Q:List Is}(hQ:db c 0 Q 0){n k:Nat}(hn:n≤Q.length)(hs:db c 0 (Q.take n) k):∃x,(Q++[bA])[n]?=some x∧amI c Q n k x:=by
 by_cases hi:n<Q.length
 ·refine⟨Q[n],by rw[List.getElem?_append_left hi,List.getElem?_eq_getElem hi],?_⟩;obtain⟨k',h1,h2⟩:=hQ.at n (by omega);have:=h1.det hs;subst this;obtain⟨h3,h4⟩:=h2 _ (List.getElem?_eq_getElem hi);exact .inl ⟨hi,List.getElem?_eq_getElem hi,h3,h4⟩
 ·have:n=Q.length:=by omega
  subst this;rw[List.take_length]at hs;exact⟨bA,by rw[List.getElem?_append_right (Nat.le_refl _),Nat.sub_self];rfl,.inr ⟨rfl,rfl,hs.det hQ⟩⟩
theorem N7(op:Int):(op=1∨op=2→iG op=0∧kl op=1)∧(op=3→iG op=1∧kl op=1)∧(4≤op∧op≤8→iG op=2∧kl op=1)∧(op=9∨op=11∨op=13→iG op=1∧kl op=0)∧(op=10→iG op=2∧kl op=0)∧(op<1∨op=12∨13<op→iG op=0∧kl op=0):=by
 unfold iG kl;refine⟨fun h=>?_,fun h=>?_,fun h=>?_,fun h=>?_,fun h=>?_,fun h=>?_⟩
 ·rw[if_neg (by omega),if_neg (by omega),if_pos (by omega)];exact⟨rfl,rfl⟩
 ·rw[if_pos (by omega),if_pos (by omega)];exact⟨rfl,rfl⟩
 ·rw[if_neg (by omega),if_pos (by omega),if_pos (by omega)];exact⟨rfl,rfl⟩
 ·rw[if_pos (by omega),if_neg (by omega)];exact⟨rfl,rfl⟩
 ·rw[if_neg (by omega),if_pos (by omega),if_neg (by omega)];exact⟨rfl,rfl⟩
 ·rw[if_neg (by omega),if_neg (by omega),if_neg (by omega)];exact⟨rfl,rfl⟩
theorem Fit.step{c:Int}{Q:List Is}(hQ:db c 0 Q 0)(hJ:u2 c 0 Q){inp:List Int}{m:Md}{p:Pr}(h:Fit c Q m p):Fit c Q (eD (Q++[bA]) inp m p).1 (eD (Q++[bA]) inp m p).2:=by
 unfold eD;by_cases hs:¬m.state=0
 ·rw[if_neg hs];exact h
 replace hs:m.state=0:=by omega
 rw[if_pos hs];have hn:=h.next hs;obtain⟨x,hx,hf⟩:=OA hQ hn (h.rk hs);have hg:(Q++[bA]).getD m.next (0,0,0,0)=x:=by rw[List.getD_eq_getElem?_getD,hx];rfl
 rw[hg];have hc:=h.cells;have ho:=h.out;rcases hf with⟨az,Ai,cT,mX⟩|⟨az,rfl,hk⟩
 ·obtain⟨op,A,B,N⟩:=x;obtain⟨f1,f2,f3,f4,f5,f6⟩:=cT;simp only at f1 f2 f3 f4 f5 f6 mX;obtain⟨n1,n2,n3,n4,n5,n6⟩:=N7 op;have one:∀(s:List Int) (cs:List Int) (rd:Nat) (ou:Nat) (p':Pr),cs.length=m.cells.length→ou≤p'.1.length→s.length=m.stack.length-iG op+kl op→Fit c Q {m with next:=m.next+1,stack:=s,cells:=cs,read:=rd,out:=ou} p':=fun s cs rd ou p' h1 h2 h3=>
   ⟨by show(cs.length:Int)=c;rw[h1];exact hc,h2,fun _=>by show m.next+1≤Q.length;omega,fun _=>by show db c 0 (Q.take (m.next+1)) s.length;rw[h3];exact mX⟩
  have off:∀(s:List Int) (st:Nat),st≠0→Fit c Q {m with next:=m.next+1,stack:=s,state:=st} p:=fun s st h1=>⟨hc,ho,fun h2=>absurd h2 h1,fun h2=>absurd h2 h1⟩;unfold bu;simp only;by_cases e1:op=1
  ·rw[if_pos e1];exact one _ _ _ _ _ rfl ho (by simp;omega)
  rw[if_neg e1];by_cases e2:op=2
  ·rw[if_pos e2];exact one _ _ _ _ _ rfl ho (by simp;omega)
  rw[if_neg e2];by_cases e3:op=3
  ·rw[if_pos e3];split
   ·exact one _ _ _ _ _ rfl ho (by simp;omega)
   ·exact off _ _ (by decide)
  rw[if_neg e3];by_cases e4:4≤op∧op≤8
  ·rw[if_pos e4];exact one _ _ _ _ _ rfl ho (by simp;omega)
  rw[if_neg e4];by_cases e9:op=9
  ·rw[if_pos e9];exact one _ _ _ _ _ (by simp) ho (by simp;omega)
  rw[if_neg e9];by_cases vw:op=10
  ·rw[if_pos vw];split
   ·exact one _ _ _ _ _ (by simp) ho (by simp;omega)
   ·exact off _ _ (by decide)
  rw[if_neg vw];by_cases HL:op=11
  ·rw[if_pos HL];exact one _ _ _ _ _ rfl ((ahv p m.out _).2 ho) (by simp;omega)
  rw[if_neg HL];by_cases HM:op=12
  ·rw[if_pos HM];split
   ·exact one _ _ _ _ _ (by simp) ho (by omega)
   ·exact off _ _ (by decide)
  rw[if_neg HM];by_cases Cv:op=13
  ·rw[if_pos Cv];obtain⟨k,ah,h2,h3⟩:=hJ _ (List.mem_of_getElem? Ai) (.inl Cv);simp only[Nat.zero_add]at ah;subst ah;have vu:m.stack.length-1=0:=by have:=f3 (.inl Cv);have:=n4 (by omega);omega
   by_cases ht:aR m.stack=0
   ·rw[if_pos ht];exact⟨hc,ho,fun _=>by simpa using h2,fun _=>by simp only[List.length_dropLast,vu,Int.toNat_natCast];exact h3⟩
   ·rw[if_neg ht];exact one _ _ _ _ _ rfl ho (by simp;omega)
  rw[if_neg Cv];by_cases Cy:op=14
  ·rw[if_pos Cy];obtain⟨k,ah,h2,h3⟩:=hJ _ (List.mem_of_getElem? Ai) (.inr Cy);simp only[Nat.zero_add]at ah;subst ah;have vu:m.stack.length=0:=by have:=f3 (.inr Cy);have:=n6 (by omega);omega
   exact⟨hc,ho,fun _=>by simpa using h2,fun _=>by simp only[vu,Int.toNat_natCast];exact h3⟩
  rw[if_neg Cy,if_neg f4];exact one _ _ _ _ _ rfl ho (by omega)
 ·have e:bu inp bA m p=({m with next:=m.next+1,state:=1},p):=rfl;rw[e];exact⟨hc,ho,fun h2=>absurd h2 (by show¬(1=0);decide),fun h2=>absurd h2 (by show¬(1=0);decide)⟩
structure Es where
 n:Nat
 read:Nat
 out:List Int
 cells:List Int
abbrev Ex(α:Type):=Except (Nat×Es) α
def dS{α β:Type}(x:Ex α)(f:α→Ex β):Ex β:=match x with
 |.error e=>.error e
 |.ok a=>f a
def tick(fuel:Nat)(s:Es):Ex Es:=if s.n<fuel then .ok {s with n:=s.n+1}else .error (13,s)
section
variable(vs:List aJ)(inp:List Int)(fuel:Nat)
def yD(op v n:Int)(xs:List Int)(s:Es):Ex (Int×Es):=
 if op=1 then .ok (n,s)
 else if op=2 then .ok (cellAt s.cells (cellOf vs v),s)
 else if op=3 then(if 0≤xs.getD 0 0∧xs.getD 0 0<jk vs v then .ok (cellAt s.cells (cellOf vs v+xs.getD 0 0),s)else .error (11,s))
 else .ok (mq op (xs.getD 0 0) (xs.getD 1 0),s)
mutual
def oy:ET→Es→Ex (Int×Es)
 |.mk op v n l,s=>dS (yE l s) fun a=>dS (tick fuel a.2) fun s2=>yD vs op v n a.1 s2
def yE:List ET→Es→Ex (List Int×Es)
 |[],s=>.ok ([],s)
 |t::r,s=>dS (oy t s) fun a=>dS (yE r a.2) fun c=>.ok (a.1::c.1,c.2)
end
def qY(op v x y:Int)(s:Es):Ex Es:=
 if op=1 then .ok {s with cells:=s.cells.set (cellOf vs v).toNat x}
 else if op=2 then(if 0≤x∧x<jk vs v then .ok {s with cells:=s.cells.set (cellOf vs v+x).toNat y}else .error (11,s))
 else if op=3 then .ok {s with out:=s.out++[x]}
 else if op=4 then(if s.read<inp.length then .ok {s with cells:=s.cells.set (cellOf vs v).toNat (inp.getD s.read 0),read:=s.read+1}else .error (12,s))
 else .ok s
def D6(ce:Es→Ex (Int×Es))(cb:Es→Ex Es):Nat→Es→Ex Es
 |0,s=>.error (13,s)
 |g+1,s=>dS (ce s) fun a=>dS (tick fuel a.2) fun s2=>if a.1=0 then .ok s2 else dS (cb s2) fun s3=>dS (tick fuel s3) fun s4=>D6 ce cb g s4
mutual
def CR:ST→Es→Ex Es
 |.mk op v e f b o,s=>
  if op=5 then D6 fuel (oy vs fuel e) (pG b) (fuel+1) s
  else if op=6 then dS (oy vs fuel e s) fun a=>dS (tick fuel a.2) fun s2=>if a.1=0 then pG o s2 else dS (pG b s2) fun s3=>tick fuel s3
  else dS (if dw op then oy vs fuel e s else .ok (0,s)) fun a=>dS (if cY op then oy vs fuel f a.2 else .ok (0,a.2)) fun c=>dS (tick fuel c.2) fun s2=>qY vs inp op v a.1 c.1 s2
def pG:List ST→Es→Ex Es
 |[],s=>.ok s
 |t::r,s=>dS (CR t s) fun s1=>pG r s1
end
def uE(body:List ST)(s:Es):Ex Es:=dS (pG vs inp fuel body s) fun s1=>tick fuel s1
end
def qC(c:Nat):Es:=⟨0,0,[],List.replicate c 0⟩
def yF(W:List Is)(inp:List Int):Nat→Md×Pr→Md×Pr
 |0,a=>a
 |n+1,a=>yF W inp n (eD W inp a.1 a.2)
theorem JO(W:List Is)(inp:List Int):∀(a b:Nat) (x:Md×Pr),yF W inp (a+b) x=yF W inp b (yF W inp a x)
 |0,b,x=>by simp[yF]
 |a+1,b,x=>by
  rw[Nat.succ_add];exact JO W inp a b _
def xF(W:List Is)(inp:List Int)(n:Nat)(a b:Md×Pr):Prop:=yF W inp n a=b∧∀k<n,(yF W inp k a).1.state=0
theorem X7{W:List Is}{inp:List Int}{a b:Nat}{x y z:Md×Pr}(h:xF W inp a x y)(h2:xF W inp b y z):xF W inp (a+b) x z:=by
 refine⟨by rw[JO,h.1,h2.1],fun k hk=>?_⟩;by_cases l_:k<a
 ·exact h.2 k l_
 ·have e:k=a+(k-a):=by omega
  rw[e,JO,h.1];exact h2.2 _ (by omega)
def eH(i:Nat)(s:List Int)(e:Es):Md:=⟨i,s,e.read,e.out.length,0,e.cells⟩
def ee(W:List Is)(inp:List Int)(fuel:Nat){α:Type}(m0:Md)(s:Es)(X:Ex α)(st:α→Es)(AI:α→Md→Prop):Prop:=
 match X with
 |.ok a=>s.n≤(st a).n∧(st a).n≤fuel∧∃m,xF W inp ((st a).n-s.n) (m0,(s.out,false)) (m,((st a).out,false))∧AI a m
 |.error e=>s.n≤e.2.n∧e.2.n≤fuel∧∃m,xF W inp (e.2.n-s.n) (m0,(s.out,false)) (m,(e.2.out,false))∧m.cells=e.2.cells∧((e.1=13∧e.2.n=fuel∧m.state=0)∨(e.1≠13∧e.1≠0∧m.state=e.1+2))
section
variable{W:List Is}{inp:List Int}{fuel:Nat}{α β:Type}{m0:Md}{s:Es}{X:Ex α}{st:α→Es}{AI:α→Md→Prop}
theorem ee.aF{f:α→Ex β}{st2:β→Es}{tgt2:β→Md→Prop}(h:ee W inp fuel m0 s X st AI)(h2:∀a m,X=.ok a→AI a m→s.n≤(st a).n→(st a).n≤fuel→ee W inp fuel m (st a) (f a) st2 tgt2):ee W inp fuel m0 s (dS X f) st2 tgt2:=by
 cases hX:X with
 |error e=>rw[hX]at h;exact h
 | ok a=>
  rw[hX]at h;obtain⟨h1,h3,m,hr,ht⟩:=h;have h4:=h2 a m hX ht h1 h3;show ee W inp fuel m0 s (f a) st2 tgt2;cases hY:f a with
  |error e=>
   rw[hY]at h4;obtain⟨g1,g2,m',g3,g4⟩:=h4;have en:e.2.n-s.n=((st a).n-s.n)+(e.2.n-(st a).n):=by omega
   refine⟨by omega,g2,m',?_,g4⟩;rw[en];exact X7 hr g3
  |ok c=>
   rw[hY]at h4;obtain⟨g1,g2,m',g3,g4⟩:=h4;have en:(st2 c).n-s.n=((st a).n-s.n)+((st2 c).n-(st a).n):=by omega
   refine⟨by omega,g2,m',?_,g4⟩;rw[en];exact X7 hr g3
theorem ee.ok{a:α}(aZ:st a=s)(hn:s.n≤fuel)(ht:AI a m0):ee W inp fuel m0 s (.ok a) st AI:=by
 refine⟨by rw[aZ];exact Nat.le_refl _,by rw[aZ];exact hn,m0,?_,ht⟩;rw[aZ,Nat.sub_self];exact⟨rfl,fun k hk=>absurd hk (by omega)⟩
theorem ee.mono{tgt2:α→Md→Prop}(h:ee W inp fuel m0 s X st AI)(ht:∀a m,AI a m→tgt2 a m):ee W inp fuel m0 s X st tgt2:=by
 cases X with
 |error e=>exact h
 |ok a=>
  obtain⟨h1,h2,m,h3,h4⟩:=h;exact⟨h1,h2,m,h3,ht a m h4⟩
theorem ee.tick{f:Es→Ex β}{st2:β→Es}{tgt2:β→Md→Prop}{x:Is}(hx:W[m0.next]?=some x)(hs:m0.state=0)(hc:m0.cells=s.cells)(hn:s.n≤fuel)
    (h:s.n+1≤fuel→match f {s with n:=s.n+1}with
      |.ok a=>(st2 a).n=s.n+1∧(bu inp x m0 (s.out,false)).2=((st2 a).out,false)∧tgt2 a (bu inp x m0 (s.out,false)).1
      |.error e=>e.2.n=s.n+1∧(bu inp x m0 (s.out,false)).2=(e.2.out,false)∧(bu inp x m0 (s.out,false)).1.cells=e.2.cells∧e.1≠13∧e.1≠0∧(bu inp x m0 (s.out,false)).1.state=e.1+2):ee W inp fuel m0 s (dS (tick fuel s) f) st2 tgt2:=by
  unfold E.tick;by_cases az:s.n<fuel
  · rw[if_pos az]
    have h1:=h (by omega);have iQ:xF W inp 1 (m0,(s.out,false)) (bu inp x m0 (s.out,false)):=by
      refine ⟨?_, fun k hk => by have:k=0:=by omega
                                 subst this;exact hs⟩
      have hg:W.getD m0.next (0,0,0,0)=x:=by rw[List.getD_eq_getElem?_getD,hx];rfl
      show eD W inp m0 (s.out,false)=_;unfold eD;rw[if_pos hs,hg]
    show ee W inp fuel m0 s (f {s with n:=s.n+1}) st2 tgt2;cases hf:f {s with n:=s.n+1}with
    | ok a=>
      rw[hf]at h1;obtain⟨e1,e2,e3⟩:=h1;refine⟨by omega,by omega,(bu inp x m0 (s.out,false)).1,?_,e3⟩;have:(st2 a).n-s.n=1:=by omega
      rw[this,←e2];exact iQ
    | error e=>
      rw[hf]at h1;obtain⟨e1,e2,e3,e4,e5,e6⟩:=h1;refine⟨by omega,by omega,(bu inp x m0 (s.out,false)).1,?_,e3,.inr ⟨e4,e5,e6⟩⟩;have:e.2.n-s.n=1:=by omega
      rw[this,←e2];exact iQ
  · rw[if_neg az]
    refine⟨Nat.le_refl _,hn,m0,?_,hc,.inl ⟨rfl,by show s.n=fuel;omega,hs⟩⟩;show xF W inp (s.n-s.n) _ _;rw[Nat.sub_self];exact⟨rfl,fun k hk=>absurd hk (by omega)⟩
theorem ee.GD{x:Is}(hx:W[m0.next]?=some x)(hs:m0.state=0)(hc:m0.cells=s.cells)(hn:s.n≤fuel)(hp:(bu inp x m0 (s.out,false)).2=(s.out,false)):ee W inp fuel m0 s (E.tick fuel s) id (fun s2 m=>s2={s with n:=s.n+1}∧m=(bu inp x m0 (s.out,false)).1):=by
 have h:=ee.tick (W:=W) (inp:=inp) (fuel:=fuel) (m0:=m0) (s:=s) (f:=fun s2=>Except.ok s2) (st2:=id) (tgt2:=fun s2 m=>s2={s with n:=s.n+1}∧m=(bu inp x m0 (s.out,false)).1) hx hs hc hn (fun _=>⟨rfl,hp,rfl,rfl⟩);have e:dS (E.tick fuel s) (fun s2=>Except.ok s2)=E.tick fuel s:=by
  cases E.tick fuel s<;>rfl
 rw[e]at h;exact h
end
theorem Yd(inp:List Int)(x:Is)(m:Md)(p p':Pr):(bu inp x m p).1=(bu inp x m p').1:=by
 simp only[bu,apply_ite Prod.fst]
theorem J5(inp:List Int)(x:Is)(m:Md)(p:Pr):(bu inp x m p).2=if x.1=11 then ko p m.out (aR m.stack)else p:=by
 simp only[bu,apply_ite Prod.snd,ite_self]
 repeat' split
 all_goals first
  |rfl
  |(exfalso;omega)
theorem akd(inp:List Int)(x:Is)(m:Md)(p:Pr):(bu inp x m p).1.out=if x.1=11 then m.out+1 else m.out:=by
 simp only[bu,apply_ite Prod.fst,apply_ite Md.out,ite_self]
 repeat' split
 all_goals first
  |rfl
  |(exfalso;omega)
section
variable(W:List Is)(inp:List Int)(c:Nat)
def pu(k:Nat):Md×Pr:=yF W inp k (gL c,([],false))
variable{W inp c}
theorem yd(k:Nat):pu W inp c (k+1)=eD W inp (pu W inp c k).1 (pu W inp c k).2:=by
 unfold pu;rw[JO];rfl
theorem yl:∀(k:Nat),(pu W inp c k).1.out=(pu W inp c k).2.1.length∧(pu W inp c k).2.2=false
 |0=>⟨rfl,rfl⟩
 | k+1=>by
  obtain⟨h1,h2⟩:=yl k;rw[yd];unfold eD;split
  ·rw[J5,akd];split
   ·unfold ko;rw[if_pos h1];simp[h1,h2]
   ·exact⟨h1,h2⟩
  ·exact⟨h1,h2⟩
theorem ake(k:Nat):(pu W inp c k).2.1<+:(pu W inp c (k+1)).2.1:=by
 rw[yd];unfold eD;split
 ·rw[J5];split
  ·unfold ko;rw[if_pos (yl k).1];exact List.prefix_append _ _
  ·exact List.prefix_refl _
 ·exact List.prefix_refl _
theorem YW{a g:Nat}(h:a≤g):(pu W inp c a).2.1<+:(pu W inp c g).2.1:=by
 induction g with
 |zero=>
  have:a=0:=by omega
  subst this;exact List.prefix_refl _
 |succ g ih=>
  by_cases e:a=g+1
  ·subst e;exact List.prefix_refl _
  ·exact(ih (by omega)).trans (ake g)
theorem aiq{a g:Nat}(h:a≤g):eD W inp (pu W inp c a).1 (pu W inp c g).2=((pu W inp c (a+1)).1,(pu W inp c (max g (a+1))).2):=by
 by_cases e:a=g
 ·subst e;rw[show max a (a+1)=a+1 by omega,yd]
 ·have an4:max g (a+1)=g:=by omega
  rw[an4];have hp:(pu W inp c (a+1)).2.1<+:(pu W inp c g).2.1:=YW (by omega);rw[yd]at hp⊢;unfold eD at hp⊢;by_cases hs:(pu W inp c a).1.state=0
  ·rw[if_pos hs]at hp⊢;rw[if_pos hs];refine Prod.ext (Yd _ _ _ _ _) ?_;rw[J5]at hp⊢;split
   ·rename_i mg
    rw[if_pos mg]at hp;show ko (pu W inp c g).2 _ _=(pu W inp c g).2;have ho:=(yl (W:=W) (inp:=inp) (c:=c) a).1;unfold ko at hp⊢;rw[if_pos ho]at hp;obtain⟨r,hr⟩:=hp;have hl:=congrArg List.length hr;simp only[List.length_append,List.length_cons,List.length_nil]at hl;have hg:(pu W inp c g).2.1[(pu W inp c a).1.out]?=some (aR (pu W inp c a).1.stack):=by
     rw[←hr,ho];simp
    rw[if_neg (by omega),if_pos hg]
   ·rfl
  ·rw[if_neg hs,if_neg hs]
end
structure Lf where
 m:Md
 k:Md
 p:Pr
section
variable(W:List Is)(inp:List Int)
def iP(q:Bool)(x:Lf):Lf:=⟨(eD W inp x.m x.p).1,if q&&eG W x.m then(eD W inp x.m x.p).1 else x.k,(eD W inp x.m x.p).2⟩
def BQ(x:Lf):Lf:={x with m:=x.k}
def ti:Nat→Lf→Lf×Nat
 |0,x=>(x,0)
 |n+1,x=>if x.m.state=0 then((ti n (iP W inp true x)).1,(ti n (iP W inp true x)).2+1)else(x,0)
def sP(keep:Bool):Nat→Lf→Lf×Nat
 |0,x=>(x,0)
 |n+1,x=>if eG W x.m then(BQ (iP W inp keep x),1)else if x.m.state=0 then((sP keep n (iP W inp true x)).1,(sP keep n (iP W inp true x)).2+1)else(x,0)
def uF(kind:Int)(n:Nat)(keep:Bool)(x:Lf):Lf×Nat:=if kind=2 then(BQ x,0)else if kind=3 then sP W inp keep n x else ti W inp n x
variable{W inp}{c:Nat}
def jd(W:List Is)(inp:List Int)(c:Nat)(x:Lf)(g:Nat):Prop:=∃a b,x.m=(pu W inp c a).1∧x.k=(pu W inp c b).1∧x.p=(pu W inp c g).2∧a≤g∧b≤g
theorem alP:jd W inp c ⟨gL c,gL c,([],false)⟩ 0:=⟨0,0,rfl,rfl,rfl,Nat.le_refl _,Nat.le_refl _⟩
theorem jd.Lv{x:Lf}{g:Nat}(h:jd W inp c x g):jd W inp c (BQ x) g:=by
 obtain⟨a,b,_,h2,h3,_,h5⟩:=h;exact⟨b,b,h2,h2,h3,h5,h5⟩
theorem jd.step{x:Lf}{g:Nat}(h:jd W inp c x g)(q:Bool):∃g',g≤g'∧g'≤g+1∧jd W inp c (iP W inp q x) g':=by
 obtain⟨a,b,h1,h2,h3,h4,h5⟩:=h;have hs:=aiq (W:=W) (inp:=inp) (c:=c) h4;rw[←h1,←h3]at hs;refine⟨max g (a+1),by omega,by omega,?_⟩;unfold iP;rw[hs];cases q&&eG W x.m
 ·exact⟨a+1,b,rfl,h2,rfl,by omega,by omega⟩
 ·exact⟨a+1,a+1,rfl,rfl,rfl,by omega,by omega⟩
theorem jd.run:∀(n:Nat) {x:Lf} {g:Nat},jd W inp c x g→∃g',g≤g'∧g'≤g+(ti W inp n x).2∧jd W inp c (ti W inp n x).1 g'
 |0,x,g,h=>⟨g,Nat.le_refl _,Nat.le_refl _,h⟩
 | n+1,x,g,h=>by
  simp only[ti];split
  ·obtain⟨g1,a1,a2,a3⟩:=h.step true;obtain⟨g2,b1,b2,b3⟩:=jd.run n a3;exact⟨g2,by omega,by simp only;omega,b3⟩
  ·exact⟨g,Nat.le_refl _,Nat.le_refl _,h⟩
theorem jd.Lu(keep:Bool):∀(n:Nat) {x:Lf} {g:Nat},jd W inp c x g→∃g',g≤g'∧g'≤g+(sP W inp keep n x).2∧jd W inp c (sP W inp keep n x).1 g'
 |0,x,g,h=>⟨g,Nat.le_refl _,Nat.le_refl _,h⟩
 | n+1,x,g,h=>by
  simp only[sP];split
  ·obtain⟨g1,a1,a2,a3⟩:=h.step keep;exact⟨g1,a1,a2,a3.Lv⟩
  split
  ·obtain⟨g1,a1,a2,a3⟩:=h.step true;obtain⟨g2,b1,b2,b3⟩:=jd.Lu keep n a3;exact⟨g2,by omega,by simp only;omega,b3⟩
  ·exact⟨g,Nat.le_refl _,Nat.le_refl _,h⟩
theorem jd.Z7{x:Lf}{g:Nat}(h:jd W inp c x g)(kind:Int)(n:Nat)(keep:Bool):∃g',g≤g'∧g'≤g+(uF W inp kind n keep x).2∧jd W inp c (uF W inp kind n keep x).1 g':=by
 unfold uF;split
 ·exact⟨g,Nat.le_refl _,Nat.le_refl _,h.Lv⟩
 split
 ·exact jd.Lu keep n h
 ·exact jd.run n h
end
def sw(W:List Is)(i:Nat)(l:List Is):Prop:=∀j x,l[j]?=some x→W[i+j]?=some x
theorem sw.left{W:List Is}{i:Nat}{a b:List Is}(h:sw W i (a++b)):sw W i a:=fun j x hx=>h j x (by
 have hj:=(List.getElem?_eq_some_iff.1 hx).1;rw[List.getElem?_append_left hj];exact hx)
theorem sw.right{W:List Is}{i:Nat}{a b:List Is}(h:sw W i (a++b)):sw W (i+a.length) b:=fun j x hx=>by
 have:=h (a.length+j) x (by rw[List.getElem?_append_right (by omega),Nat.add_sub_cancel_left];exact hx);rw[←Nat.add_assoc]at this;exact this
theorem sw.head{W:List Is}{i:Nat}{x:Is}{b:List Is}(h:sw W i (x::b)):W[i]?=some x∧sw W (i+1) b:=
 ⟨h 0 x rfl,fun j y hy=>by
  have:=h (j+1) y hy;rw[Nat.add_comm j 1,←Nat.add_assoc]at this;exact this⟩
theorem DP(s:List Int)(x:Int):aR (s++[x])=x:=by simp[aR]
theorem aic(s:List Int)(x:Int):(s++[x]).dropLast=s:=by simp
section
variable{vs:List aJ}{W:List Is}{inp:List Int}{fuel:Nat}
mutual
theorem Hc:∀(t:ET) {d k k':Nat},gO vs.length t d k=.ok k'→∀(i:Nat) (s:List Int) (e:Es),sw W i (ey vs t)→e.n≤fuel→
  ee W inp fuel (eH i s e) e (oy vs fuel t e) (fun a=>a.2) (fun a m=>m=eH (i+(ey vs t).length) (s++[a.1]) a.2)
 | .mk op v n l,d,k,k',h,i,s,e,hW,hn=>by
  obtain⟨_,h1,k1,h2⟩:=DE h;obtain⟨a1,a2,a3,_,_,_⟩:=DF h1;obtain⟨p1,p2,p3,p4⟩:=Wm a3;simp only[ey]at hW⊢;simp only[oy];refine ee.aF (Zi l h2 i s e hW.left hn) ?_;rintro⟨xs,s1⟩ m _⟨rfl,pV⟩ _ iy;simp only at iy pV⊢;obtain⟨hx,_⟩:=hW.right.head;refine ee.tick hx rfl rfl iy ?_;intro _;have hlen:∀x:Is,i+(gr vs l++[x]).length=i+(gr vs l).length+1:=fun x=>by simp;omega
  unfold yD;by_cases e1:op=1
  ·subst e1;have mG:xs=[]:=List.eq_nil_of_length_eq_zero (by have:=p2 (.inl rfl);omega);subst mG;rw[if_pos rfl];refine⟨rfl,rfl,?_⟩;rw[hlen];simp[bu,eH]
  rw[if_neg e1];by_cases e2:op=2
  ·subst e2;have mG:xs=[]:=List.eq_nil_of_length_eq_zero (by have:=p2 (.inr rfl);omega);subst mG;rw[if_pos rfl];refine⟨rfl,rfl,?_⟩;rw[hlen];simp[bu,eH]
  rw[if_neg e2];by_cases e3:op=3
  ·subst e3;obtain⟨y,rfl⟩:∃y,xs=[y]:=by
    have:=p3 rfl
    match xs,pV with
    |[y],_=>exact⟨y,rfl⟩
    |[],pV=>simp at pV;omega
    |_::_::_,pV=>simp at pV;omega
   rw[if_pos rfl];have hy:[y].getD 0 0=y:=rfl;rw[hy];by_cases hr:0≤y∧y<jk vs v
   ·rw[if_pos hr];refine⟨rfl,?_,?_⟩
    ·simp[bu,eH,DP,hr]
    ·rw[hlen];simp[bu,eH,DP,hr]
   ·rw[if_neg hr];refine⟨rfl,?_,?_,(by show(11:Nat)≠13;decide),(by show(11:Nat)≠0;decide),?_⟩
    ·simp[bu,eH,DP,hr]
    ·simp[bu,eH,DP,hr]
    ·simp[bu,eH,DP,hr]
  rw[if_neg e3];obtain⟨z,y,rfl⟩:∃z y,xs=[z,y]:=by
   have:=p4 (by omega)
   match xs,pV with
   |[z,y],_=>exact⟨z,y,rfl⟩
   |[],pV=>simp at pV;omega
   |[_],pV=>simp at pV;omega
   |_::_::_::_,pV=>simp at pV;omega
  have cE:s++[z,y]=(s++[z])++[y]:=by simp
  have hex:∀A B,bu inp (op,A,B,n) (eH (i+(gr vs l).length) (s++[z,y]) s1) (s1.out,false)=(eH (i+(gr vs l).length+1) (s++[mq op z y]) {s1 with n:=s1.n+1},(s1.out,false)):=fun A B=>by
   unfold bu;simp only;rw[if_neg e1,if_neg e2,if_neg e3,if_pos ⟨by omega,a2⟩];simp only[eH,cE,DP,aic]
  refine⟨rfl,by rw[hex],?_⟩;rw[hlen,hex];simp
theorem Zi:∀(l:List ET) {d k k':Nat},eY vs.length l d k=.ok k'→∀(i:Nat) (s:List Int) (e:Es),sw W i (gr vs l)→e.n≤fuel→
  ee W inp fuel (eH i s e) e (yE vs fuel l e) (fun a=>a.2) (fun a m=>m=eH (i+(gr vs l).length) (s++a.1) a.2∧a.1.length=l.length)
 |[],_,_,_,_,i,s,e,_,hn=>by
  simp only[yE];exact ee.ok rfl hn ⟨by simp[gr],rfl⟩
 |t::r,d,k,k',h,i,s,e,hW,hn=>by
  obtain⟨⟨k1,h1⟩,k2,h2⟩:=Du h;simp only[gr]at hW⊢;simp only[yE];refine ee.aF (Hc t h1 i s e hW.left hn) ?_;rintro⟨x,s1⟩ m _ rfl _ iy;refine ee.aF (Zi r h2 _ (s++[x]) s1 hW.right iy) ?_;rintro⟨xs,s2⟩ m _⟨rfl,pV⟩ _ iZ;refine ee.ok rfl iZ ⟨?_,by simp only[List.length_cons];simp only at pV;omega⟩;simp[Nat.add_assoc]
end
mutual
theorem anN:∀(t:ST) {d k k':Nat},kM vs.length t d k=.ok k'→∀(i:Nat) (e:Es),sw W i (fS vs t i)→e.n≤fuel→
  ee W inp fuel (eH i [] e) e (CR vs inp fuel t e) id (fun a m=>m=eH (i+(fS vs t i).length) [] a)
 | .mk op v e f b o,d,k,k',h,i,s,hW,hn=>by
  obtain⟨hd,h1,h2,h3,⟨k1,k2,h4⟩,k3,k4,h5⟩:=DG h;obtain⟨a1,a2,_⟩:=DH h1;have sb:=fun i e=>KO b h4 i e;have so:=fun i e=>KO o h5 i e;simp only[CR];simp only[fS]at hW⊢;by_cases e5:op=5
  ·subst e5;rw[if_pos rfl]at hW⊢;rw[if_pos rfl];obtain⟨_,_,pN⟩:=h2 rfl;have Si:eI vs 5 e=ey vs e:=rfl;rw[Si]at hW⊢;obtain⟨X,hX⟩:∃X,X=cN vs b (i+(ey vs e).length+1):=⟨_,rfl⟩;have xH:=sb (i+(ey vs e).length+1);rw[←hX]at hW xH⊢;have CN:(qa i (ey vs e) X).length=(ey vs e).length+1+X.length+1:=by simp[qa];omega
   rw[CN];unfold qa at hW;obtain⟨cJ,za⟩:=hW.right.head;obtain⟨gi,_⟩:=za.right.head;have loop:∀(g:Nat) (s:Es),s.n≤fuel→fuel<g+s.n→ee W inp fuel (eH i [] s) s (D6 fuel (oy vs fuel e) (pG vs inp fuel b) g s) id (fun a m=>m=eH (i+((ey vs e).length+1+X.length+1)) [] a):=by
    intro g;induction g with
    |zero=>intro s hs hg;omega
    | succ g ih=>
     intro s hs hg;simp only[D6];refine ee.aF (Hc e pN i [] s hW.left hs) ?_;rintro⟨x,s1⟩ m _ rfl QI iy;simp only at QI iy⊢;refine ee.aF (ee.GD cJ rfl rfl iy rfl) ?_;rintro s2 m _⟨rfl,rfl⟩ QJ iZ;simp only[id]at QJ iZ⊢;have hex:(bu inp (13,((i+(ey vs e).length+1+X.length+1:Nat):Int),0,0) (eH (i+(ey vs e).length) ([]++[x]) s1) (s1.out,false)).1=eH (if x=0 then i+(ey vs e).length+1+X.length+1 else i+(ey vs e).length+1) [] {s1 with n:=s1.n+1}:=by
      simp[bu,eH,aR];split<;>omega
     rw[hex];by_cases mG:x=0
     ·rw[if_pos mG,if_pos mG];exact ee.ok rfl iZ (by congr 1;omega)
     ·rw[if_neg mG,if_neg mG];refine ee.aF (xH {s1 with n:=s1.n+1} za.left iZ) ?_;rintro s3 m _ rfl QK cD;simp only[id]at QK cD⊢;refine ee.aF (ee.GD gi rfl rfl cD rfl) ?_;rintro s4 m _⟨rfl,rfl⟩ anO fG;simp only[id]at anO fG⊢;have anP:(bu inp (14,((i:Nat):Int),0,0) (eH (i+(ey vs e).length+1+X.length) [] s3) (s3.out,false)).1=eH i [] {s3 with n:=s3.n+1}:=by
       simp[bu,eH]
      rw[anP];exact ih _ fG (by show fuel<g+(s3.n+1);omega)
   exact loop (fuel+1) s hn (by omega)
  rw[if_neg e5]at hW⊢;rw[if_neg e5];by_cases e6:op=6
  ·subst e6;rw[if_pos rfl]at hW⊢;rw[if_pos rfl];obtain⟨_,_,pN⟩:=h2 rfl;have Si:eI vs 6 e=ey vs e:=rfl;rw[Si]at hW⊢;obtain⟨X,hX⟩:∃X,X=cN vs b (i+(ey vs e).length+1):=⟨_,rfl⟩;have xH:=sb (i+(ey vs e).length+1);rw[←hX]at hW xH⊢;obtain⟨Y,hY⟩:∃Y,Y=cN vs o (i+(ey vs e).length+1+X.length+1):=⟨_,rfl⟩;have hso:=so (i+(ey vs e).length+1+X.length+1);rw[←hY]at hW hso⊢;have CN:(rm i (ey vs e) X Y).length=(ey vs e).length+1+X.length+1+Y.length:=by simp[rm];omega
   rw[CN];unfold rm at hW;obtain⟨cJ,za⟩:=hW.right.head;obtain⟨gi,hW3⟩:=za.right.head;refine ee.aF (Hc e pN i [] s hW.left hn) ?_;rintro⟨x,s1⟩ m _ rfl QI iy;simp only at QI iy⊢;refine ee.aF (ee.GD cJ rfl rfl iy rfl) ?_;rintro s2 m _⟨rfl,rfl⟩ QJ iZ;simp only[id]at QJ iZ⊢;have hex:(bu inp (13,((i+(ey vs e).length+1+X.length+1:Nat):Int),0,0) (eH (i+(ey vs e).length) ([]++[x]) s1) (s1.out,false)).1=eH (if x=0 then i+(ey vs e).length+1+X.length+1 else i+(ey vs e).length+1) [] {s1 with n:=s1.n+1}:=by
    simp[bu,eH,aR];split<;>omega
   rw[hex];by_cases mG:x=0
   ·rw[if_pos mG,if_pos mG];refine(hso {s1 with n:=s1.n+1} hW3 iZ).mono ?_;rintro a m rfl;congr 1;omega
   ·rw[if_neg mG,if_neg mG];refine ee.aF (xH {s1 with n:=s1.n+1} za.left iZ) ?_;rintro s3 m _ rfl QK cD;simp only[id]at QK cD⊢;refine(ee.GD gi rfl rfl cD rfl).mono ?_;rintro s4 m⟨rfl,rfl⟩;simp[bu,eH];omega
  rw[if_neg e6]at hW⊢;rw[if_neg e6];have PO:=hW.left;have PQ:=hW.right.left;obtain⟨hx,_⟩:=hW.right.right.head;have hlen:i+(eI vs op e++(fI vs op f++[jB vs op v])).length=i+(eI vs op e).length+(fI vs op f).length+1:=by simp;omega
  rw[hlen];have sE:ee W inp fuel (eH i [] s) s (if dw op then oy vs fuel e s else .ok (0,s)) (fun a=>a.2) (fun a m=>m=eH (i+(eI vs op e).length) (if dw op then[a.1]else[]) a.2):=by
   unfold eI at PO⊢;cases bS:dw op with
   |false=>exact ee.ok rfl hn rfl
   |true=>
    obtain⟨_,_,hc⟩:=h2 bS;rw[bS]at PO;exact Hc e hc i [] s PO hn
  refine ee.aF sE ?_;rintro⟨x,s1⟩ m _ rfl _ iy;simp only at iy⊢;have sF:ee W inp fuel (eH (i+(eI vs op e).length) (if dw op then[x]else[]) s1) s1 (if cY op then oy vs fuel f s1 else .ok (0,s1)) (fun a=>a.2) (fun a m=>m=eH (i+(eI vs op e).length+(fI vs op f).length) ((if dw op then[x]else[])++(if cY op then[a.1]else[])) a.2):=by
   unfold fI at PQ⊢;cases np:cY op with
   |false=>exact ee.ok rfl iy (by simp)
   |true=>
    obtain⟨_,_,hc⟩:=h3 np;rw[np]at PQ;exact Hc f hc _ _ s1 PQ iy
  refine ee.aF sF ?_;rintro⟨y,s2⟩ m _ rfl _ iZ;simp only at iZ⊢;refine ee.tick hx rfl rfl iZ ?_;intro _;have vy:op=1∨op=2∨op=3∨op=4∨op=7:=by omega
  rcases vy with rfl|rfl|rfl|rfl|rfl
  ·exact⟨rfl,rfl,by simp[bu,jB,eH,dw,cY,aR]⟩
  ·by_cases hr:0≤x∧x<jk vs v
   ·have e9:qY vs inp 2 v x y {s2 with n:=s2.n+1}=.ok {s2 with n:=s2.n+1,cells:=s2.cells.set (cellOf vs v+x).toNat y}:=by simp[qY,hr]
    rw[e9];exact⟨rfl,by simp[bu,jB,eH,dw,cY,aR,hr],by simp[bu,jB,eH,dw,cY,aR,hr]⟩
   ·have e9:qY vs inp 2 v x y {s2 with n:=s2.n+1}=.error (11,{s2 with n:=s2.n+1}):=by simp[qY,hr]
    rw[e9];exact⟨rfl,by simp[bu,jB,eH,dw,cY,aR,hr],by simp[bu,jB,eH,dw,cY,aR,hr],(by show(11:Nat)≠13;decide),(by show(11:Nat)≠0;decide),by simp[bu,jB,eH,dw,cY,aR,hr]⟩
  ·refine⟨rfl,?_,?_⟩
   ·simp[bu,jB,eH,dw,cY,aR,ko]
   ·simp[bu,jB,eH,dw,cY]
  ·by_cases hr:s2.read<inp.length
   ·have e9:qY vs inp 4 v x y {s2 with n:=s2.n+1}=.ok {s2 with n:=s2.n+1,cells:=s2.cells.set (cellOf vs v).toNat (inp.getD s2.read 0),read:=s2.read+1}:=by simp[qY,hr]
    rw[e9];exact⟨rfl,by simp[bu,jB,eH,dw,cY,hr],by simp[bu,jB,eH,dw,cY,hr]⟩
   ·have e9:qY vs inp 4 v x y {s2 with n:=s2.n+1}=.error (12,{s2 with n:=s2.n+1}):=by simp[qY,hr]
    rw[e9];exact⟨rfl,by simp[bu,jB,eH,dw,cY,hr],by simp[bu,jB,eH,dw,cY,hr],(by show(12:Nat)≠13;decide),(by show(12:Nat)≠0;decide),by simp[bu,jB,eH,dw,cY,hr]⟩
  ·exact⟨rfl,rfl,by simp[bu,jB,eH,dw,cY]⟩
theorem KO:∀(l:List ST) {d k k':Nat},dI vs.length l d k=.ok k'→∀(i:Nat) (e:Es),sw W i (cN vs l i)→e.n≤fuel→
  ee W inp fuel (eH i [] e) e (pG vs inp fuel l e) id (fun a m=>m=eH (i+(cN vs l i).length) [] a)
 |[],_,_,_,_,i,e,_,hn=>by
  simp only[pG];exact ee.ok rfl hn (by simp[cN])
 |t::r,d,k,k',h,i,e,hW,hn=>by
  obtain⟨⟨k1,h1⟩,k2,h2⟩:=Dw h;simp only[cN]at hW⊢;simp only[pG];refine ee.aF (anN t h1 i e hW.left hn) ?_;rintro s1 m _ rfl _ iy;refine(KO r h2 _ s1 hW.right iy).mono ?_;rintro a m rfl;simp[Nat.add_assoc]
end
end
def nU:Ex Es→Nat×List Int×List Int×Nat
 |.ok a=>(0,a.out,a.cells,a.n)
 |.error e=>(e.1,e.2.out,e.2.cells,e.2.n)
theorem anQ{vs:List aJ}{body:List ST}(h:dq vs body=0)(inp:List Int)(fuel c:Nat):ee (bB vs body) inp fuel (gL c) (qC c) (uE vs inp fuel body (qC c)) id (fun a m=>m.state=1∧m.cells=a.cells):=by
 obtain⟨_,_,k,hk⟩:=FB h;have hW:sw (bB vs body) 0 (cN vs body 0++[bA]):=fun j x hx=>by rw[Nat.zero_add];exact hx
 unfold uE;refine ee.aF (KO body hk 0 (qC c) hW.left (Nat.zero_le _)) ?_;rintro s1 m _ rfl _ iy;obtain⟨hx,_⟩:=hW.right.head;refine(ee.GD hx rfl rfl iy rfl).mono ?_;rintro s2 m⟨rfl,rfl⟩;exact⟨rfl,rfl⟩
theorem aag{vs:List aJ}{body:List ST}(h:dq vs body=0)(inp:List Int)(fuel c:Nat):∃n m out,n≤fuel∧xF (bB vs body) inp n (gL c,([],false)) (m,(out,false))∧(n=fuel∨m.state≠0)∧nU (uE vs inp fuel body (qC c))=(if m.state=0 then 13 else if m.state=1 then 0 else m.state-2,out,m.cells,n):=by
 have hs:=anQ h inp fuel c;cases hX:uE vs inp fuel body (qC c)with
 |ok a=>
  rw[hX]at hs;obtain⟨_,h2,m,h3,h4,h5⟩:=hs;refine⟨a.n,m,a.out,h2,h3,.inr (by omega),?_⟩;simp[nU,h4,h5]
 | error e=>
  rw[hX]at hs;obtain⟨_,h2,m,h3,h4,h5⟩:=hs;refine⟨e.2.n,m,e.2.out,h2,h3,?_,?_⟩
  ·rcases h5 with⟨_,h6,_⟩|⟨_,_,h6⟩
   ·exact .inl h6
   ·exact .inr (by omega)
  ·rcases h5 with⟨h5,_,h6⟩|⟨h5,h7,h6⟩
   ·simp[nU,h4,h5,h6]
   ·have e1:¬m.state=0:=by omega
    have e2:¬m.state=1:=by omega
    rw[if_neg e1,if_neg e2,h6,h4];rfl
theorem aie(inp:List Int)(x:Is)(m:Md)(p:Pr):(bu inp x m p).1.read≤m.read+1:=by
 simp only[bu,apply_ite Prod.fst,apply_ite Md.read,ite_self]
 repeat' split
 all_goals omega
theorem agF(inp:List Int)(x:Is)(m:Md)(p:Pr)(h:m.state≤14):(bu inp x m p).1.state≤14:=by
 simp only[bu,apply_ite Prod.fst,apply_ite Md.state]
 repeat' split
 all_goals omega
section
variable{W:List Is}{inp:List Int}{c:Nat}
theorem DB:∀(k:Nat),(pu W inp c k).1.read≤k∧(pu W inp c k).2.1.length≤k∧(pu W inp c k).1.state≤14
 |0=>⟨Nat.le_refl _,Nat.le_refl _,Nat.zero_le _⟩
 | k+1=>by
  obtain⟨h1,h2,h3⟩:=DB k;have ho:=(yl (W:=W) (inp:=inp) (c:=c) k).1;rw[yd];unfold eD;split
  ·have e1:=aie inp (W.getD (pu W inp c k).1.next (0,0,0,0)) (pu W inp c k).1 (pu W inp c k).2;refine⟨by omega,?_,agF _ _ _ _ h3⟩;rw[J5];split
   ·unfold ko;rw[if_pos ho];simp only[List.length_append,List.length_cons,List.length_nil];omega
   ·omega
  ·exact⟨by simp only;omega,by simp only;omega,h3⟩
theorem Bz{Q:List Is}(hQ:db c 0 Q 0)(hJ:u2 c 0 Q):∀(k:Nat),Fit c Q (pu (Q++[bA]) inp c k).1 (pu (Q++[bA]) inp c k).2
 |0=>amH _
 |k+1=>by
  rw[yd];exact(Bz hQ hJ k).step hQ hJ
end
theorem YT{vs:List aJ}{body:List ST}(h:dq vs body=0)(inp:List Int){fuel c n:Nat}(hn:n≤fuel)(hl:∀k<n,(pu (bB vs body) inp c k).1.state=0)(he:n=fuel∨(pu (bB vs body) inp c n).1.state≠0):nU (uE vs inp fuel body (qC c))=(if(pu (bB vs body) inp c n).1.state=0 then 13 else if(pu (bB vs body) inp c n).1.state=1 then 0 else(pu (bB vs body) inp c n).1.state-2,(pu (bB vs body) inp c n).2.1,(pu (bB vs body) inp c n).1.cells,n):=by
 obtain⟨n0,m,out,h1,⟨h2,h3⟩,h4,h5⟩:=aag h inp fuel c;have h2:pu (bB vs body) inp c n0=(m,(out,false)):=h2;have hnn:n=n0:=by
  rcases Nat.lt_trichotomy n n0 with az|rfl|az
  ·have:=h3 n az;rcases he with rfl|he
   ·omega
   ·exact absurd this he
  ·rfl
  ·have:=hl n0 az;rw[h2]at this;rcases h4 with rfl|h4
   ·omega
   ·exact absurd this h4
 subst hnn;rw[h5,h2]
structure Lz where
 lf:Lf
 W:List Int
 KW:List Int
 gen:Int
section
variable(nw:List Is→List Int→Md→List Int→List Int)(L:List Is)(inp:List Int)
def iB(q:Bool)(z:Lz):Lz:=
 if q&&eG L z.lf.m then⟨iP L inp q z.lf,nw L inp z.lf.m z.W,nw L inp z.lf.m z.W,z.gen+1⟩else⟨iP L inp q z.lf,nw L inp z.lf.m z.W,z.KW,z.gen⟩
def Ea(z:Lz):Lz:=⟨BQ z.lf,z.KW,z.KW,z.gen⟩
def oU:Nat→Lz→Lz×Nat
 |0,z=>(z,0)
 |n+1,z=>if z.lf.m.state=0 then((oU n (iB nw L inp true z)).1,(oU n (iB nw L inp true z)).2+1)else(z,0)
def oP(keep:Bool):Nat→Lz→Lz×Nat
 |0,z=>(z,0)
 |n+1,z=>if eG L z.lf.m then(Ea (iB nw L inp keep z),1)else if z.lf.m.state=0 then((oP keep n (iB nw L inp true z)).1,(oP keep n (iB nw L inp true z)).2+1)else(z,0)
def rC(kind:Int)(n:Nat)(keep:Bool)(z:Lz):Lz×Nat:=if kind=2 then(Ea z,0)else if kind=3 then oP nw L inp keep n z else oU nw L inp n z
variable{nw L inp}
theorem JQ(q:Bool)(z:Lz):(iB nw L inp q z).lf=iP L inp q z.lf:=by
 unfold iB;split<;>rfl
theorem Ye:∀(n:Nat) (z:Lz),(oU nw L inp n z).1.lf=(ti L inp n z.lf).1∧(oU nw L inp n z).2=(ti L inp n z.lf).2
 |0,z=>⟨rfl,rfl⟩
 |n+1,z=>by
  obtain⟨h1,h2⟩:=Ye n (iB nw L inp true z);rw[JQ]at h1 h2;simp only[oU,ti];split
  ·exact⟨h1,by rw[h2]⟩
  ·exact⟨rfl,rfl⟩
theorem WT(keep:Bool):∀(n:Nat) (z:Lz),(oP nw L inp keep n z).1.lf=(sP L inp keep n z.lf).1∧(oP nw L inp keep n z).2=(sP L inp keep n z.lf).2
 |0,z=>⟨rfl,rfl⟩
 | n+1,z=>by
  obtain⟨h1,h2⟩:=WT keep n (iB nw L inp true z);rw[JQ]at h1 h2;simp only[oP,sP];split
  ·exact⟨by show BQ (iB nw L inp keep z).lf=_;rw[JQ],rfl⟩
  ·split
   ·exact⟨h1,by rw[h2]⟩
   ·exact⟨rfl,rfl⟩
theorem Km(kind:Int)(n:Nat)(keep:Bool)(z:Lz):(rC nw L inp kind n keep z).1.lf=(uF L inp kind n keep z.lf).1∧(rC nw L inp kind n keep z).2=(uF L inp kind n keep z.lf).2:=by
 unfold rC uF;split
 ·exact⟨rfl,rfl⟩
 split
 ·exact WT keep n z
 ·exact Ye n z
theorem Jx(q:Bool)(z:Lz):z.gen≤(iB nw L inp q z).gen∧(iB nw L inp q z).gen≤z.gen+1:=by
 unfold iB;split
 ·exact⟨by show z.gen≤z.gen+1;omega,Int.le_refl _⟩
 ·exact⟨Int.le_refl _,by show z.gen≤z.gen+1;omega⟩
theorem WU:∀(n:Nat) (z:Lz),z.gen≤(oU nw L inp n z).1.gen∧(oU nw L inp n z).1.gen≤z.gen+((oU nw L inp n z).2:Nat)
 |0,z=>⟨Int.le_refl _,by show z.gen≤z.gen+((0:Nat):Int);omega⟩
 | n+1,z=>by
  obtain⟨h1,h2⟩:=WU n (iB nw L inp true z);obtain⟨h3,h4⟩:=Jx (nw:=nw) (L:=L) (inp:=inp) true z;simp only[oU];split
  ·simp only;omega
  ·exact⟨Int.le_refl _,by show z.gen≤z.gen+((0:Nat):Int);omega⟩
theorem VI(keep:Bool):∀(n:Nat) (z:Lz),z.gen≤(oP nw L inp keep n z).1.gen∧(oP nw L inp keep n z).1.gen≤z.gen+((oP nw L inp keep n z).2:Nat)
 |0,z=>⟨Int.le_refl _,by show z.gen≤z.gen+((0:Nat):Int);omega⟩
 | n+1,z=>by
  obtain⟨h1,h2⟩:=VI keep n (iB nw L inp true z);obtain⟨h3,h4⟩:=Jx (nw:=nw) (L:=L) (inp:=inp) true z;obtain⟨h5,h6⟩:=Jx (nw:=nw) (L:=L) (inp:=inp) keep z;simp only[oP];split
  ·exact⟨h5,h6⟩
  ·split
   ·simp only;omega
   ·exact⟨Int.le_refl _,by show z.gen≤z.gen+((0:Nat):Int);omega⟩
theorem aka(kind:Int)(n:Nat)(keep:Bool)(z:Lz):z.gen≤(rC nw L inp kind n keep z).1.gen∧(rC nw L inp kind n keep z).1.gen≤z.gen+((rC nw L inp kind n keep z).2:Nat):=by
 unfold rC;split
 ·exact⟨Int.le_refl _,by show z.gen≤z.gen+((0:Nat):Int);omega⟩
 split
 ·exact VI keep n z
 ·exact WU n z
end
theorem Yf(W:List Is)(inp:List Int):∀(n:Nat) (x:Lf),(ti W inp n x).2≤n
 |0,x=>Nat.le_refl _
 | n+1,x=>by
  simp only[ti];split
  ·have:=Yf W inp n (iP W inp true x);simp only;omega
  ·exact Nat.zero_le _
theorem WV(W:List Is)(inp:List Int)(keep:Bool):∀(n:Nat) (x:Lf),(sP W inp keep n x).2≤n
 |0,x=>Nat.le_refl _
 | n+1,x=>by
  simp only[sP];split
  ·simp only;omega
  split
  ·have:=WV W inp keep n (iP W inp true x);simp only;omega
  ·exact Nat.zero_le _
theorem alb(W:List Is)(inp:List Int)(kind:Int)(n:Nat)(keep:Bool)(x:Lf):(uF W inp kind n keep x).2≤n:=by
 unfold uF;split
 ·exact Nat.zero_le _
 split
 ·exact WV W inp keep n x
 ·exact Yf W inp n x
abbrev Sp:=Int×Int×Int×Nat
def jA(s:Sp):Int:=if s.1<1∨3<s.1 then 2 else if s.1≠2∧(s.2.1<0∨3000<s.2.1)∨s.1=3∧s.2.2.1<0 then 1 else 0
def qd(s:Sp):Bool:=s.2.2.1==0||(s.2.2.1==1&&s.2.2.2%2==1)
def lh(W:List Is)(inp:List Int)(s:Sp)(x:Lf):Lf×Nat:=uF W inp s.1 s.2.1.toNat (qd s) x
def E1(c:Nat):Lf:=⟨gL c,gL c,([],false)⟩
section
variable{H:Type}{enc:TypeId×Value→H}{P:Program}{w:World}{base:Nat}{spare:Nat→Bool}{held:Bool}{fuel:Nat}{t:TypeId}{cs:List Value}{x:DataW H×List MemPlace}
theorem T8{α:Type}{p:Nat→α→Prop}:∀n,(∀i,i<n→∃a,p i a)→∃l:List α,l.length=n∧∀i a,l[i]?=some a→p i a
 |0,_=>⟨[],rfl,fun i a h=>by simp at h⟩
 | n+1,h=>by
  obtain⟨l,hl,hp⟩:=T8 n fun i hi=>h i (Nat.lt_succ_of_lt hi);obtain⟨a,ha⟩:=h n (Nat.lt_succ_self n);refine⟨l++[a],by simp[hl],fun i b hb=>?_⟩;rcases Nat.lt_or_ge i l.length with az|ij
  ·rw[List.getElem?_append_left az]at hb;exact hp i b hb
  ·rw[List.getElem?_append_right ij]at hb;have:i-l.length=0:=by
    rcases Nat.eq_zero_or_pos (i-l.length)with h0|h0
    ·exact h0
    ·rw[List.getElem?_eq_none (by simp;omega)]at hb;cases hb
   rw[this]at hb;simp at hb;subst hb;have hi:i=n:=by omega
   rw[hi];exact ha
end
def dR(x:aJ):List Value:=[.string x.1,.int .i64 x.2]
def mT(F:Nat→Prop)(w:World)(v:Value)(l:List aJ):Prop:=
 ∃a cap,v=.slice a l.length cap∧l.length≤cap∧sR F w 2 a l.length (fun i=>dR (l.getD i (ByteArray.empty,0)))
section
variable{F F':Nat→Prop}{w w':World}{v:Value}{l:List aJ}
theorem mT.keep{fp:List Nat}(h:mT F w v l)(hk:ae fp w w')(hs:oN F w fp):mT F w' v l:=by
 obtain⟨a,cap,hv,hc,hr⟩:=h;exact⟨a,cap,hv,hc,hr.keep hk hs⟩
theorem mT.mono(h:mT F w v l)(hF:∀b,F b→F' b):mT F' w v l:=by
 obtain⟨a,cap,hv,hc,hr⟩:=h;exact⟨a,cap,hv,hc,hr.mono hF⟩
theorem mT.form(h:mT F w v l):∃a cap,v=.slice a l.length cap:=by
 obtain⟨a,cap,hv,_⟩:=h;exact⟨a,cap,hv⟩
theorem mT.room{a:Option Addr}{cap:Nat}(h:mT F w (.slice a l.length cap) l):l.length≤cap:=by
 obtain⟨a',iF,hv,hc,_⟩:=h;cases hv;exact hc
theorem mT.at(h:mT F w v l){i:Nat}{x:aJ}(hx:l[i]?=some x):∃b q cap,v=.slice (some ⟨b,q,none⟩) l.length cap∧F b∧w.rangeAt b (q+i*2) (dR x):=by
 obtain⟨a,cap,hv,_,hr⟩:=h;obtain⟨az,e⟩:=List.getElem?_eq_some_iff.1 hx;obtain⟨b,q,ha,hF,dD⟩:=hr (by omega);have this:w.rangeAt b (q+i*2) (dR (l.getD i (ByteArray.empty,0))):=dD i az;rw[List.getD_eq_getElem?_getD,hx]at this;exact⟨b,q,cap,by rw[hv,ha],hF,this⟩
end
def iN(F:Nat→Prop)(w:World)(v:Value)(vs:List aJ)(b:List ST):Prop:=∃vv bv,v=.agg #[vv,bv]∧mT F w vv vs∧eM F w bv b
theorem iN.keep{F:Nat→Prop}{w w':World}{v:Value}{vs:List aJ}{b:List ST}{fp:List Nat}(h:iN F w v vs b)(hk:ae fp w w')(hs:oN F w fp):iN F w' v vs b:=by
 obtain⟨vv,bv,hv,h1,h2⟩:=h;exact⟨vv,bv,hv,h1.keep hk hs,h2.keep hk hs⟩
section
variable{P:Program}{f n:Nat}{k:List Item}{K Kp:Value→World→Prop}{σ:Env}{w:World}
theorem Bk{fn:Func}{t0 t1 t2 t3 t4:Nat}{v0 v1 v2 v3 v4:Value}(hf:P.funcs[f]?=some fn)(hr:fn.results=#[.tmp t0,.tmp t1,.tmp t2,.tmp t3,.tmp t4])(h0:look σ t0=some v0)(h1:look σ t1=some v1)(h2:look σ t2=some v2)
  (h3:look σ t3=some v3)(h4:look σ t4=some v4)(hR:K (.tuple #[v0,v1,v2,v3,v4]) w):Rn P f n (.code .ret::k) (oQ K Kp) σ w:=fun a ha hd=>
 JC hf hd (by simp only[results,hr];simp[ha.has t0 _ h0,ha.has t1 _ h1,ha.has t2 _ h2,ha.has t3 _ h3,ha.has t4 _ h4]) hR
end
section
variable{w:World}{B e k:Nat}{v:Value}
theorem aft{k:Nat}{c_:List (List Value)}(hk:∀c∈c_,c.length=k){i:Nat}{c:List Value}(h:c_[i]?=some c):(c_.flatten.drop (i*k)).take k=c:=by
 have:=wy (f:=fun x:List Value=>x) (k:=k) hk h;simpa[List.flatMap_id']using this
theorem V0{c_:List (List Value)}(h:Own w B e k v c_.length c_.flatten)(hk:∀c∈c_,c.length=k):∃a cap,v=.slice a c_.length cap∧sR (fun b=>v.ownBlock=some b) w k a c_.length (fun i=>c_.getD i []):=by
 obtain⟨a,cap,hv⟩:=h.form;refine⟨a,cap,hv,fun h0=>?_⟩;obtain⟨g,iF,tF,hr⟩:=h.range (q:=0) (cs:=c_.flatten) (by rw[List.drop_zero,List.take_length]) h0;rw[hv]at tF;injection tF with e1 e2 e3;subst e1;refine⟨g,0,rfl,by rw[hv];rfl,fun i hi j u hu=>?_⟩;replace hu:(c_.getD i [])[j]?=some u:=hu;rw[List.getD_eq_getElem?_getD,List.getElem?_eq_getElem hi]at hu;have hc:=hk _ (List.getElem_mem hi);have hj:j<k:=by
  have:=(List.getElem?_eq_some_iff.1 hu).1;simp only[Option.getD_some]at this;omega
 have eJ:=aft hk (List.getElem?_eq_getElem hi);simp only[Option.getD_some]at hu;rw[←eJ,List.getElem?_take,if_pos hj,List.getElem?_drop]at hu;have:=hr (i*k+j) u hu
 rwa [←Nat.add_assoc]at this
theorem Tz{F:Nat→Prop}{c_:List (List Value)}{l:List ET}(h:Own w B e 4 v c_.length c_.flatten)(hl:c_.length=l.length)(hc:∀i (hi:i<l.length),dY F w (c_.getD i []) (l[i]'hi)):lQ (fun b=>v.ownBlock=some b∨F b) w v l:=by
 have hk:∀c∈c_,c.length=4:=fun c hm=>by
  obtain⟨i,hi,rfl⟩:=List.mem_iff_getElem.1 hm;have:=(hc i (by omega)).length
  rwa [List.getD_eq_getElem?_getD,List.getElem?_eq_getElem hi]at this
 obtain⟨a,cap,hv,hr⟩:=V0 h hk;rw[hl]at hv hr;exact⟨a,cap,_,hv,hr.mono fun b hb=>.inl hb,fun i hi=>(hc i hi).mono fun b hb=>.inr hb⟩
theorem adG{F:Nat→Prop}{c_:List (List Value)}{l:List ST}(h:Own w B e 12 v c_.length c_.flatten)(hl:c_.length=l.length)(hc:∀i (hi:i<l.length),iO F w (c_.getD i []) (l[i]'hi)):eM (fun b=>v.ownBlock=some b∨F b) w v l:=by
 have hk:∀c∈c_,c.length=12:=fun c hm=>by
  obtain⟨i,hi,rfl⟩:=List.mem_iff_getElem.1 hm;have:=(hc i (by omega)).length
  rwa [List.getD_eq_getElem?_getD,List.getElem?_eq_getElem hi]at this
 obtain⟨a,cap,hv,hr⟩:=V0 h hk;rw[hl]at hv hr;exact⟨a,cap,_,hv,hr.mono fun b hb=>.inl hb,fun i hi=>(hc i hi).mono fun b hb=>.inr hb⟩
end
theorem In.stays{F:Nat→Prop}{w:World}(h:In F w):oN F w []:=fun k hk=>⟨h k hk,by simp⟩
theorem Yo(t:ET):1≤fO t:=by cases t;simp only[fO];omega
theorem akC(t:ST):1≤ll t:=by cases t;simp only[ll];omega
theorem F4:∀(l:List ET),l.length≤iH l
 |[]=>by simp[iH]
 |t::r=>by have:=F4 r;have:=Yo t;simp only[List.length_cons,iH];omega
theorem DI:∀(l:List ST),l.length≤cu l
 |[]=>by simp[cu]
 |t::r=>by have:=DI r;have:=akC t;simp only[List.length_cons,cu];omega
theorem Nl:∀(a b:List ET),iH (a++b)=iH a+iH b
 |[],b=>by simp[iH]
 |t::r,b=>by simp only[List.cons_append,iH,Nl r b];omega
theorem Jc:∀(a b:List ST),cu (a++b)=cu a+cu b
 |[],b=>by simp[cu]
 |t::r,b=>by simp only[List.cons_append,cu,Jc r b];omega
theorem Jr{l:List ET}{i:Nat}{t:ET}(h:l[i]?=some t):iH (l.take (i+1))=iH (l.take i)+fO t:=by
 obtain⟨az,e⟩:=List.getElem?_eq_some_iff.1 h;rw[List.take_succ_eq_append_getElem az,Nl,e];simp[iH]
theorem NO{l:List ST}{i:Nat}{t:ST}(h:l[i]?=some t):cu (l.take (i+1))=cu (l.take i)+ll t:=by
 obtain⟨az,e⟩:=List.getElem?_eq_some_iff.1 h;rw[List.take_succ_eq_append_getElem az,Jc,e];simp[cu]
theorem Js(l:List ET)(i:Nat):iH (l.take i)≤iH l:=by
 have e:iH l=iH (l.take i)+iH (l.drop i):=by rw[←Nl,List.take_append_drop]
 omega
theorem NP(l:List ST)(i:Nat):cu (l.take i)≤cu l:=by
 have e:cu l=cu (l.take i)+cu (l.drop i):=by rw[←Jc,List.take_append_drop]
 omega
theorem XK{l:List ET}{i:Nat}{t:ET}(h:l[i]?=some t):fO t≤iH l:=by
 have:=Jr h;have:=Js l (i+1);omega
theorem OF{l:List ST}{i:Nat}{t:ST}(h:l[i]?=some t):ll t≤cu l:=by
 have:=NO h;have:=NP l (i+1);omega
abbrev jq:Nat:=148
def iC(x:Is):List Value:=[.int .i64 x.1,.int .i64 x.2.1,.int .i64 x.2.2.1,.int .i64 x.2.2.2]
theorem gC:dH prog 3 1=true:=by kernel_rfl
theorem nJ(x:Is):∀u∈iC x,u.oneCell'=true:=by
 intro u hu;simp only[iC,List.mem_cons,List.not_mem_nil,or_false]at hu;rcases hu with rfl|rfl|rfl|rfl<;>rfl
theorem eK(a:Int):∀u∈[Value.int .i64 a],u.oneCell'=true:=by
 intro u hu;simp only[List.mem_cons,List.not_mem_nil,or_false]at hu;subst hu;rfl
theorem NS(x:Is):(iC x).length=4:=rfl
def kX(l:List Is):List Value:=l.flatMap iC
theorem FH(l:List Is):(kX l).length=l.length*4:=TX fun p _=>NS p
theorem ajC(l:List Is):∀u∈kX l,u.oneCell'=true:=by
 intro u hu;simp only[kX,List.mem_flatMap,iC]at hu;obtain⟨x,_,hu⟩:=hu;simp only[List.mem_cons,List.not_mem_nil,or_false]at hu;rcases hu with rfl|rfl|rfl|rfl<;>rfl
theorem ajD(a b:List Is):kX (a++b)=kX a++kX b:=by simp[kX]
def lC(F:Nat→Prop)(w:World)(v:Value)(l:List Is):Prop:=∃a cap,v=.slice a l.length cap∧(0<l.length→∃b q,a=some ⟨b,q,none⟩∧F b∧w.rangeAt b q (kX l))
section
variable{F F':Nat→Prop}{w w':World}{v:Value}{l:List Is}
theorem lC.form(h:lC F w v l):∃a cap,v=.slice a l.length cap:=let⟨a,cap,h,_⟩:=h;⟨a,cap,h⟩
theorem lC.keep{fp:List Nat}(h:lC F w v l)(hk:ae fp w w')(hF:∀c,F c→c<w.heap.size∧c∉fp):lC F w' v l:=by
 obtain⟨a,cap,h1,h2⟩:=h;refine⟨a,cap,h1,fun h0=>?_⟩;obtain⟨b,q,h3,h4,h5⟩:=h2 h0;exact⟨b,q,h3,h4,ft h5 hk (hF b h4).1 (hF b h4).2⟩
theorem lC.at(h:lC F w v l){i:Nat}{x:Is}(hx:l[i]?=some x):∃b q cap,v=.slice (some ⟨b,q,none⟩) l.length cap∧F b∧w.rangeAt b (q+i*4) (iC x):=by
 obtain⟨a,cap,h1,h2⟩:=h;have hi:=(List.getElem?_eq_some_iff.1 hx).1;obtain⟨b,q,h3,h4,h5⟩:=h2 (by omega);refine⟨b,q,cap,by rw[h1,h3],h4,fun j u hu=>?_⟩;have hf:((kX l).drop (i*4)).take 4=iC x:=wy (fun p _=>NS p) hx;have:=h5 (i*4+j) u (by
  have hj:j<4:=by have:=(List.getElem?_eq_some_iff.1 hu).1;simpa[NS]using this
  rw[←hf,List.getElem?_take,if_pos hj,List.getElem?_drop]at hu;exact hu)
 rw[←Nat.add_assoc]at this;exact this
theorem lC.nil:lC F w (.slice none 0 0) []:=⟨none,0,rfl,fun h=>absurd h (by simp)⟩
end
def fN(e:Nat)(w:World)(B:Nat)(v:Value)(l:List Is):Prop:=Own w B e 4 v l.length (kX l)
section
variable{e B:Nat}{w w':World}{v:Value}{l:List Is}
theorem fN.nil(e:Nat)(w:World)(B:Nat):fN e w B (.slice none 0 0) []:=Own.nil w B e 4
theorem fN.form(h:fN e w B v l):∃a cap,v=.slice a l.length cap:=Own.form h
theorem fN.ins(h:fN e w B v l):lC (fun c=>B≤c∧c<w.heap.size) w v l:=by
 rcases h.2 with⟨h1,h2⟩|⟨g,cap,cur,h1,hB,hb,hc,hl,ht⟩
 ·exact⟨none,0,by rw[h1,h2],fun h0=>by omega⟩
 ·exact⟨_,cap,h1,fun h0=>⟨g,0,rfl,⟨hB,hb.lt⟩,hb.range (by rw[List.drop_zero,FH];exact ht)⟩⟩
theorem fN.keep{fp:List Nat}(h:fN e w B v l)(hk:ae fp w w')(hf:∀k∈fp,k<B):fN e w' B v l:=Own.keep h hk fun k hv hm=>by
 have:=(Own.lt h k hv).1;have:=hf k hm;omega
theorem fN.aA(h:fN e w B v l)(hk:ae [] w w'):fN e w' B v l:=h.keep hk fun _ hm=>by cases hm
theorem fN.lower(h:fN e w B v l){B':Nat}(hB:B'≤B):fN e w B' v l:=by
 refine⟨h.1,?_⟩;rcases h.2 with h0|⟨g,cap,cur,h1,hb,r⟩
 ·exact .inl h0
 ·exact .inr ⟨g,cap,cur,h1,by omega,r⟩
theorem fN.own(h:fN e w B v l):∀k∈v.ownBlock.toList,B≤k∧k<w.heap.size:=fun k hk=>Own.lt h k (by simpa using hk)
end
section
variable{P:Program}{n:Nat}{σ:Env}{o:Oper}{w:World}{v:Value}{K:Value→World→Prop}
theorem NK{t:TypeId}{s x:Operand}{a:Option Addr}{c ln B e size bytes:Nat}{xs:List Value}(ho:o.op=.call {callee:=.builtin .append,args:=#[s,x],argTypes:=#[t,t]})(hs:ev σ s=some v)(hx:ev σ x=some (.slice a 0 c)) (hP:wE P t e size bytes=true)(bW:Own w B e size v ln xs)(hK:K v w):iE P n σ o w K:=by
 obtain⟨i,z,hu,hi,hz,KA,LX,LY⟩:=NJ hP;have hr:(Builtin.append_ #[t,t] o.type #[v,.slice a 0 c]).run P w=.ok v w:=by
  rcases bW.2 with⟨rfl,rfl⟩|⟨g,cap,cur,rfl,_,_,uu,_⟩
  ·cases a<;>simp[Builtin.append_,run_underlying hu,sizeOf,typeInfo,hi,Builtin.lenOf,Builtin.firstCells,loadCells,loadCellsFrom]
  ·cases a<;>simp[Builtin.append_,run_underlying hu,sizeOf,typeInfo,hi,Builtin.lenOf,Builtin.firstCells,loadCells,loadCellsFrom,uu,storeCells]
 refine wm (w':=w) (v:=v) (fun ac ha=>?_) hK;simp[execOp,ho,resolve,invoke,builtin,ha.eval hs,ha.eval hx,hr]
theorem pY{t:TypeId}{s x:Operand}{e B:Nat}{F:Nat→Prop}{vx:Value}(l m:List Is)(ho:o.op=.call {callee:=.builtin .append,args:=#[s,x],argTypes:=#[t,t]})(hs:ev σ s=some v)(hx:ev σ x=some vx) (hP:wE P t e 4 32=true)(bN:fN e w B v l)(hm:lC F w vx m)(hb:l.length+m.length≤1000000)(hB:B≤w.heap.size) (hK:∀v' w',fN e w' B v' (l++m)→ae v.ownBlock.toList w w'→K v' w'):iE P n σ o w K:=by
 obtain⟨a,cap,rfl,h2⟩:=hm;by_cases h0:0<m.length
 ·obtain⟨b,q,rfl,_,hr⟩:=h2 h0;refine ja B e 4 32 (kX l) (kX m) ho hs hx hP bN hr (FH m) (ajC m) h0 (by unfold maxLen;omega) (by omega) hB ?_;intro g c w' bW hk;rw[←ajD,←List.length_append]at bW;refine hK _ _ (by rw[←List.length_append];exact bW) ?_;rcases hk with⟨h3,_,h4⟩|⟨_,h4,_⟩
  ·rw[h3];exact h4
  ·exact h4.bG
 ·have Cu:m=[]:=List.eq_nil_of_length_eq_zero (by omega);subst Cu;refine NK ho hs hx hP bN (hK _ _ ?_ (ae.refl _ _));rw[List.append_nil];exact bN
end
section
variable{P:Program}{n:Nat}{σ:Env}{o:Oper}{w:World}
def PE(P:Program)(t e:Nat):Bool:=
 match P.underlying t with
 |some (.slice e')=>e'==e&&(match P.info? e with
  |some i=>i.size==1&&i.bytes==8&&(match i.zero with|some (.int .i64 z)=>z==0|_=>false)
  |none=>false)
 |_=>false
theorem af8(len:Nat):madeCells #[Value.int .i64 0] (len*1)=(List.replicate len (Value.int .i64 0)).toArray:=by
 apply Array.ext
 ·simp[size_madeCells]
 ·intro i h1 h2;simp[madeCells,Nat.mod_one]
theorem Ux{t:TypeId}{l c:Operand}{k1 k2:IntKind}{K:Value→World→Prop}(e len:Nat)(ho:o.op=.makeSlice t l c)(hl:ev σ l=some (.int k1 (len:Nat)))(hc:ev σ c=some (.int k2 (len:Nat))) (hP:PE P t e=true)(hlen:len≤1000000)(hK:∀w1 b,b=w.heap.size→w1.heap.size=b+1→ae [] w w1→ak w1 b (List.replicate len (.int .i64 0)) e→K (.slice (some ⟨b,0,none⟩) len len) w1):iE P n σ o w K:=by
 unfold PE at hP;split at hP
 ·rename_i e' hu
  simp only[Bool.and_eq_true,beq_iff_eq]at hP;obtain⟨rfl,hP⟩:=hP;split at hP
  ·rename_i i hi
   simp only[Bool.and_eq_true,beq_iff_eq]at hP;obtain⟨⟨h1,h2⟩,h3⟩:=hP;split at h3
   ·rename_i z hz
    have:z=0:=by simpa using h3
    subst this;exact afO len (List.replicate len (.int .i64 0)) i _ ho hl hc hu hi hz (by rw[h2];omega) (by omega) (by rw[h1];exact af8 len) (hK _ _ rfl (World.size_alloc _ _) ((ae.refl _ _).alloc _) (ak.new _ _ _))
   ·cases h3
  ·cases hP
 ·cases hP
end
end E
end Go.Proofs.YtoigoojdbpbhoagGreatDoor
