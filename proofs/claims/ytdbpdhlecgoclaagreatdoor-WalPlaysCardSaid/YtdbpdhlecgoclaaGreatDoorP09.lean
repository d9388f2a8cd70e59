/-
  The contracts of Read,the program's and the document's: the text that stands at a place of bytes,or which error.
-/
import Derived.Test.YtdbpdhlecgoclaaGreatDoorP00
import Derived.Test.YtdbpdhlecgoclaaGreatDoorP01
import Derived.Test.YtdbpdhlecgoclaaGreatDoorP07
import Derived.Test.YtdbpdhlecgoclaaGreatDoorP08
import Derived.Laws.BytesString
import Derived.Laws.IdiomStrings
import Derived.Deep.RegionHeld3
import Derived.LoopN
namespace Go.Proofs.YtdbpdhlecgoclaaGreatDoor
set_option maxRecDepth 100000
set_option maxHeartbeats 6400000
open Go Go.RowKit
def str (l:List Nat):ByteArray:=⟨(l.map UInt8.ofNat).toArray⟩
def zaN (l:List Nat) (at_:Int):List Nat × Nat × Int :=
 if (getS l at_ 1).2.2≠0 then ([],0,(getS l at_ 1).2.2)
 else if l.length-(getS l at_ 1).2.1<(getS l at_ 1).1 then ([],0,10)
 else ((l.drop (getS l at_ 1).2.1).take (getS l at_ 1).1,(getS l at_ 1).2.1+(getS l at_ 1).1,0)
theorem zdr {l:List Nat} {a b:Nat} (hb:l[a]?=some b):getS l (a:Int) 1=(b,a+1,0):=by
 have ha:a<l.length:=(List.getElem?_eq_some_iff.1 hb).1
 rw [zbJ rfl (by omega) (by omega) (by omega)]
 have e:(l.drop a).take 1=[b]:=by
  have h0:(l.drop a)[0]?=some b:=by rw [List.getElem?_drop];exact hb
  rw [List.take_add_one,h0]
  simp
 simp [e,num]
theorem zgK {l:List Nat}:getS l (l.length:Int) 1=(0,0,10):=zba rfl (by omega) (by omega) (by omega)
theorem zfC {l:List Nat} {a e:Int} (h:getS l a 1=(0,0,e)) (he:e≠0):zaN l a=([],0,e):=by
 unfold zaN
 rw [h,if_pos he]
theorem zdP {l:List Nat} {a b:Nat} (hb:l[a]?=some b) (h:l.length<a+1+b):zaN l (a:Int)=([],0,10):=by
 have ha:a<l.length:=(List.getElem?_eq_some_iff.1 hb).1
 unfold zaN
 rw [zdr hb,if_neg (by simp),if_pos (by simp only;omega)]
theorem zgc {l:List Nat} {a b:Nat} (hb:l[a]?=some b) (h:a+1+b≤l.length):zaN l (a:Int)=((l.drop (a+1)).take b,a+1+b,0):=by
 unfold zaN
 rw [zdr hb,if_neg (by simp),if_neg (by simp only;omega)]
theorem zga {P:Program} (w:World) (src dst e:TypeId) (A:Option Addr) (c:Nat) (hs:P.underlying src=some (.slice e)) (he:P.underlying e=some (.int .u8)) (hd:P.underlying dst=some .string) :
 (convert src dst (.slice A 0 c)).run P w=.ok (.string (str [])) w:=by
 rw [run_convert_bytes_string w src dst e _ 0 c hs he hd]
 cases A with
 | none=>simp [Conv.bytesToString];rfl
 | some a =>
  have hl:=run_loadCells_list (P:=P) w a [] (fun j v hj=>by simp at hj)
  rw [run_bytesToString w a 0 c [] hl]
  rfl
theorem zjk {P:Program} {w:World} {B:Nat} {g o:Nat} {l:List Nat} (hr:Rd w B (some ⟨g,o,none⟩) l) (n c:Nat) (hl:l.length=n) (src dst e:TypeId) (hs:P.underlying src=some (.slice e)) (he:P.underlying e=some (.int .u8)) (hd:P.underlying dst=some .string) :
 (convert src dst (.slice (some ⟨g,o,none⟩) n c)).run P w=.ok (.string (str l)) w:=by
 subst hl
 by_cases h0:l.length=0
 ·rw [h0,List.eq_nil_of_length_eq_zero h0]
  exact zga w src dst e _ c hs he hd
 ·have e1:(l.map UInt8.ofNat).length=l.length:=by simp
  have h:=run_convert_bytes_back (P:=P) w src dst e ⟨g,o,none⟩ c (l.map UInt8.ofNat) hs he hd (fun j hj=>by
   have hj':j<l.length:=by simpa using hj
   obtain ⟨g',o',x,hA,_,hx,hx2,hc⟩:=hr.at_ hj'
   injection hA with hA
   injection hA with h1 h2
   subst h1;subst h2
   rw [Addr.add_lit,hc]
   have:(l.map UInt8.ofNat)[j]=UInt8.ofNat x:=by
    have h3:=List.getElem?_eq_some_iff.1 hx
    simp [h3.2]
   rw [this]
   simp [Nat.mod_eq_of_lt hx2])
  rw [e1] at h
  exact h
theorem ziS (A:Option Addr) (l:List Nat) (n c B:Nat) (a:Int) (w:World) (hL:Laid w) (hl:l.length=n) (hc:n≤c) (hr:Rd w B A l) (hn9:n≤9000000000000000000) :
 Calls Tryz.prog 201 #[.slice A n c,.int .i64 a] w fun e w'=>e=.returned (.tuple #[.string (str (zaN l a).1),.int .i64 (zaN l a).2.1,.int .i64 (zaN l a).2.2])∧w=w':=by
 have H:=qj hL
 clear hL
 have HL:=qj hl
 clear hl
 have HE:Hid (a<0∨(n:Int)<a∨(n:Int)=a∨∃k:Nat,k<n∧a=k):=qj (by
  by_cases h1:a<0
  ·exact .inl h1
  ·obtain ⟨k,rfl⟩:=Int.eq_ofNat_of_zero_le (show 0≤a by omega)
   by_cases h2:k<n
   ·exact .inr (.inr (.inr ⟨k,h2,rfl⟩))
   ·by_cases h3:k=n
    ·exact .inr (.inr (.inl (by omega)))
    ·exact .inr (.inl (by omega)))
 have bad:∀e:Int,(e == 0)=false→(e != 0)=true→getS l a 1=(0,0,e)→Calls Tryz.prog 201 #[.slice A n c,.int .i64 a] w fun e w'=>e=.returned (.tuple #[.string (str (zaN l a).1),.int .i64 (zaN l a).2.1,.int .i64 (zaN l a).2.2])∧w=w':=by
  intro e h0 h0' hg
  have HF:=qj (zfC hg (by simpa using h0))
  have HG:=qj hg
  clear hg HE
  go_enter Tryz.func201,Tryz.ntmps201
  go_wp2_with (go_at_call 156;refine (zbx _ _ _ _ _ _ _ _ H.out HL.out hr (by omega)).mono ?_;rintro e w' ⟨rfl,rfl⟩;rw [HG.out])
  go_ret3
  exact ⟨by rw [HF.out];rfl,rfl⟩
 rcases HE.out with h | h | h | ⟨k,hk,rfl⟩
 ·exact bad 2 rfl rfl (zbu (.inr (.inl h)))
 ·exact bad 2 rfl rfl (zbu (.inr (.inr (by rw [HL.out];exact h))))
 ·exact bad 10 rfl rfl (by rw [←h,←HL.out];exact zgK)
 ·clear bad HE
  obtain ⟨g,o,b,hA,_,hb,hb2,_⟩:=hr.at_ (k:=k) (by rw [HL.out];exact hk)
  subst hA
  have HG:=qj (zdr hb)
  have HB:=qj hb
  by_cases hlt:n<k+1+b
  ·have HF:=qj (zdP hb (by rw [HL.out];exact hlt))
   clear hb
   go_enter Tryz.func201,Tryz.ntmps201
   go_wp2_with (go_at_call 156;refine (zbx _ _ _ _ _ _ _ _ H.out HL.out hr (by omega)).mono ?_;rintro e w' ⟨rfl,rfl⟩;rw [HG.out])
   go_ret3
   exact ⟨by rw [HF.out];rfl,rfl⟩
  ·have HF:=qj (zgc hb (by rw [HL.out];omega))
   clear hb
   have hdt:((l.drop (k+1)).take b).length=b:=by rw [List.length_take,List.length_drop,HL.out];omega
   by_cases hb0:b=0
   ·subst hb0
    have hcv:=fun A' c'=>zga (P:=Tryz.prog) w 45 9 5 A' c' Tryz.underlying45 Tryz.underlying5 Tryz.underlying9
    clear hdt
    go_enter Tryz.func201,Tryz.ntmps201
    go_wp2_with (go_at_call 156;refine (zbx _ _ _ _ _ _ _ _ H.out HL.out hr (by omega)).mono ?_;rintro e w' ⟨rfl,rfl⟩;rw [HG.out])
    all_goals (go_ret3;exact ⟨by rw [HF.out];simp,rfl⟩)
   ·have hcv:=fun c'=>zjk (P:=Tryz.prog) ((hr.drop rfl (k+1)).take b) b c' hdt 45 9 5 Tryz.underlying45 Tryz.underlying5 Tryz.underlying9
    have hne:¬c=k+1:=by omega
    clear hdt
    go_enter Tryz.func201,Tryz.ntmps201
    go_wp2_with (go_at_call 156;refine (zbx _ _ _ _ _ _ _ _ H.out HL.out hr (by omega)).mono ?_;rintro e w' ⟨rfl,rfl⟩;rw [HG.out])
    go_ret3
    exact ⟨by rw [HF.out];rfl,rfl⟩
theorem ziG (A:Option Addr) (l:List Nat) (n c B:Nat) (a:Int) (w:World) (hl:l.length=n) (hc:n≤c) (hr:Rd w B A l) (hn9:n≤9000000000000000000) :
 Calls Tryz.prog 170 #[.slice A n c,.int .i64 a] w fun e w'=>e=.returned (.tuple #[.string (str (zaN l a).1),.int .i64 (zaN l a).2.1,.int .i64 (zaN l a).2.2])∧w=w':=by
 have HL:=qj hl
 clear hl
 have HE:Hid (a<0∨(n:Int)<a∨(n:Int)=a∨∃k:Nat,k<n∧a=k):=qj (by
  by_cases h1:a<0
  ·exact .inl h1
  ·obtain ⟨k,rfl⟩:=Int.eq_ofNat_of_zero_le (show 0≤a by omega)
   by_cases h2:k<n
   ·exact .inr (.inr (.inr ⟨k,h2,rfl⟩))
   ·by_cases h3:k=n
    ·exact .inr (.inr (.inl (by omega)))
    ·exact .inr (.inl (by omega)))
 have bad:∀e:Int,(e == 0)=false→(e != 0)=true→getS l a 1=(0,0,e)→Calls Tryz.prog 170 #[.slice A n c,.int .i64 a] w fun e w'=>e=.returned (.tuple #[.string (str (zaN l a).1),.int .i64 (zaN l a).2.1,.int .i64 (zaN l a).2.2])∧w=w':=by
  intro e h0 h0' hg
  have HF:=qj (zfC hg (by simpa using h0))
  have HG:=qj hg
  clear hg HE
  go_enter Tryz.func170,Tryz.ntmps170
  go_wp2_with (go_at_call 136;refine (zbT _ _ _ _ _ _ _ _ HL.out hr (by omega)).mono ?_;rintro e w' ⟨rfl,rfl⟩;rw [HG.out])
  go_ret3
  exact ⟨by rw [HF.out];rfl,rfl⟩
 rcases HE.out with h | h | h | ⟨k,hk,rfl⟩
 ·exact bad 2 rfl rfl (zbu (.inr (.inl h)))
 ·exact bad 2 rfl rfl (zbu (.inr (.inr (by rw [HL.out];exact h))))
 ·exact bad 10 rfl rfl (by rw [←h,←HL.out];exact zgK)
 ·clear bad HE
  obtain ⟨g,o,b,hA,_,hb,hb2,_⟩:=hr.at_ (k:=k) (by rw [HL.out];exact hk)
  subst hA
  have HG:=qj (zdr hb)
  have HB:=qj hb
  by_cases hlt:n<k+1+b
  ·have HF:=qj (zdP hb (by rw [HL.out];exact hlt))
   clear hb
   go_enter Tryz.func170,Tryz.ntmps170
   go_wp2_with (go_at_call 136;refine (zbT _ _ _ _ _ _ _ _ HL.out hr (by omega)).mono ?_;rintro e w' ⟨rfl,rfl⟩;rw [HG.out])
   go_ret3
   exact ⟨by rw [HF.out];rfl,rfl⟩
  ·have HF:=qj (zgc hb (by rw [HL.out];omega))
   clear hb
   have hdt:((l.drop (k+1)).take b).length=b:=by rw [List.length_take,List.length_drop,HL.out];omega
   by_cases hb0:b=0
   ·subst hb0
    have hcv:=fun A' c'=>zga (P:=Tryz.prog) w 45 9 5 A' c' Tryz.underlying45 Tryz.underlying5 Tryz.underlying9
    clear hdt
    go_enter Tryz.func170,Tryz.ntmps170
    go_wp2_with (go_at_call 136;refine (zbT _ _ _ _ _ _ _ _ HL.out hr (by omega)).mono ?_;rintro e w' ⟨rfl,rfl⟩;rw [HG.out])
    all_goals (go_ret3;exact ⟨by rw [HF.out];simp,rfl⟩)
   ·have hcv:=fun c'=>zjk (P:=Tryz.prog) ((hr.drop rfl (k+1)).take b) b c' hdt 45 9 5 Tryz.underlying45 Tryz.underlying5 Tryz.underlying9
    have hne:¬c=k+1:=by omega
    clear hdt
    go_enter Tryz.func170,Tryz.ntmps170
    go_wp2_with (go_at_call 136;refine (zbT _ _ _ _ _ _ _ _ HL.out hr (by omega)).mono ?_;rintro e w' ⟨rfl,rfl⟩;rw [HG.out])
    go_ret3
    exact ⟨by rw [HF.out];rfl,rfl⟩
section
open Go
structure Ent where
 k:Nat:=0
 cl:Int:=0
 sq:Int:=0
 ok:Nat:=0
 key:ByteArray:=ByteArray.empty
 old:ByteArray:=ByteArray.empty
 val:ByteArray:=ByteArray.empty
instance (x:Ent):CoeDep Ent x (Array Value):=⟨#[.int .u8 (x.k:Int),.int .i64 x.cl,.int .i64 x.sq,.int .u8 (x.ok:Int),.string x.key,.string x.old,.string x.val]⟩
instance (x:Ent):CoeDep Ent x (List Value):=⟨[.int .u8 (x.k:Int),.int .i64 x.cl,.int .i64 x.sq,.int .u8 (x.ok:Int),.string x.key,.string x.old,.string x.val]⟩
instance:Inhabited Ent:=⟨{}⟩
def opOk (ok:Nat) (key old val:ByteArray):Bool :=
 decide (1≤key.size∧key.size≤8∧old.size≤16∧val.size≤16∧(((ok=1∨ok=3)∧old.size=0∧val.size=0)∨(ok=2∧old.size=0)∨ok=4))
theorem zcH {ok:Nat} {key old val:ByteArray}:opOk ok key old val=true↔(1≤key.size∧key.size≤8∧old.size≤16∧val.size≤16∧(((ok=1∨ok=3)∧old.size=0∧val.size=0)∨(ok=2∧old.size=0)∨ok=4)):=by unfold opOk;exact decide_eq_true_iff
def enOk (e:Ent):Bool :=
 decide ((e.k=1∧e.cl=0∧e.sq=0∧e.ok=0∧e.key.size=0∧e.old.size=0∧e.val.size=0)∨(e.k=2∧0≤e.cl∧e.cl≤3∧1≤e.sq∧e.sq≤1099511627776∧opOk e.ok e.key e.old e.val=true∧e.ok≠1))
theorem zcS {e:Ent}:enOk e=true↔((e.k=1∧e.cl=0∧e.sq=0∧e.ok=0∧e.key.size=0∧e.old.size=0∧e.val.size=0)∨(e.k=2∧0≤e.cl∧e.cl≤3∧1≤e.sq∧e.sq≤1099511627776∧opOk e.ok e.key e.old e.val=true∧e.ok≠1)):=by unfold enOk;exact decide_eq_true_iff
def tx (s:ByteArray):List Nat:=s.size :: bl s
theorem zgi (s:ByteArray):(tx s).length=1+s.size:=by unfold tx;rw [List.length_cons,zdo];omega
def enL (e:Ent):List Nat:=if e.k=1 then [1] else [2,e.cl.toNat]++digs 6 e.sq.toNat++[e.ok]++tx e.key++tx e.old++tx e.val
theorem zjA {e:Ent} (h:enOk e=true):1≤(enL e).length∧(enL e).length≤52:=by
 unfold enL
 split
 ·simp
 ·rcases zcS.1 h with h | ⟨_,_,_,_,_,h,_⟩
  ·omega
  ·have:=zcH.1 h
   simp only [List.length_append,List.length_cons,List.length_nil,zaB,zgi]
   omega
def rdT (l:List Nat) (a:Nat):Option (ByteArray × Nat):=if (zaN l (a:Int)).2.2=0 then some (str (zaN l (a:Int)).1,(zaN l (a:Int)).2.1) else none
theorem zlw {l:List Nat} {a n:Nat} (h:l[a]?=some n) (hn:a+1+n≤l.length):rdT l a=some (str ((l.drop (a+1)).take n),a+1+n):=by
 unfold rdT zaN
 rw [zdr h]
 have hq:¬(l.length-(a+1)<n):=by omega
 simp [hq]
theorem zjF {l:List Nat} {a b:Nat} {s:ByteArray} (ha:a≤l.length) (h:rdT l a=some (s,b)):∃n,l[a]?=some n∧a+1+n≤l.length∧s=str ((l.drop (a+1)).take n)∧b=a+1+n:=by
 by_cases hlt:a<l.length
 ·have hx:l[a]?=some l[a]:=List.getElem?_eq_getElem hlt
  refine ⟨l[a],hx,?_⟩
  by_cases hn:a+1+l[a]≤l.length
  ·rw [zlw hx hn] at h
   injection h with h
   injection h with h1 h2
   exact ⟨hn,h1.symm,h2.symm⟩
  ·exfalso
   unfold rdT zaN at h
   rw [zdr hx] at h
   have hq:l.length-(a+1)<l[a]:=by omega
   simp [hq] at h
 ·exfalso
  have he:a=l.length:=by omega
  subst he
  unfold rdT zaN at h
  rw [zba (by rfl) (by omega) (by omega) (by omega)] at h
  simp at h
def zbF (l:List Nat) (a:Nat):Option (Ent × Nat) :=
 if l[a]?=some 1 then some ({ k:=1 },a+1) else
 if l[a]?=some 2∧a+9≤l.length then
  (rdT l (a+9)).bind fun x=>(rdT l x.2).bind fun y=>(rdT l y.2).map fun z =>
   ({ k:=2,cl:=(l.getD (a+1) 0:Nat),sq:=(num ((l.drop (a+2)).take 6):Nat),ok:=l.getD (a+8) 0,key:=x.1,old:=y.1,val:=z.1 },z.2)
 else none
def enR (l:List Nat) (a:Nat):Option (Ent × Nat):=(zbF l a).bind fun x=>if enOk x.1=true then some x else none
theorem zgP {l:List Nat} {p x:Nat} (h:l[p]?=some x):(l.drop p).take 1=[x]:=by
 obtain ⟨hp,hx⟩:=List.getElem?_eq_some_iff.1 h
 rw [List.drop_eq_getElem_cons hp,hx]
 rfl
theorem getD_some {l:List Nat} {p:Nat} (h:p<l.length):l[p]?=some (l.getD p 0):=by
 rw [List.getD_eq_getElem?_getD,List.getElem?_eq_getElem h]
 rfl
end
section
open Go
def balE (x y:Int):Bool:=decide (1≤x∧x≤1099511627776∧0≤y∧y≤6)
theorem zbr {x y:Int}:balE x y=true↔(1≤x∧x≤1099511627776∧0≤y∧y≤6):=by unfold balE;exact decide_eq_true_iff
def zbb (x y:Int) (e:Ent):List Nat:=digs 6 x.toNat++[y.toNat]++enL e
theorem znR {x y:Int} {e:Ent} (h:enOk e=true):8≤(zbb x y e).length∧(zbb x y e).length≤59:=by
 have:=zjA h
 unfold zbb
 simp only [List.length_append,List.length_cons,List.length_nil,zaB]
 omega
def bdR (l:List Nat):Option (Nat × Nat × Ent) :=
 if l.length<7 then none else (enR l 7).bind fun r=>if r.2=l.length∧balE (num (l.take 6):Nat) (l.getD 6 0:Nat)=true then some (num (l.take 6),l.getD 6 0,r.1) else none
end
section
open Go
def recB (x y h:Int):Bool:=balE x y && decide (h=0∨h=1)
theorem zcm {x y h:Int}:recB x y h=true↔(1≤x∧x≤1099511627776∧0≤y∧y≤6)∧(h=0∨h=1):=by
 unfold recB
 rw [Bool.and_eq_true,zbr,decide_eq_true_iff]
def recL (x y h:Int):List Nat:=digs 6 x.toNat++[y.toNat]++[h.toNat]
theorem zcZ (x y h:Int):(recL x y h).length=8:=by unfold recL;simp [zaB]
def recR (l:List Nat):Option (Nat × Nat × Nat) :=
 if l.length=8∧l.getD 7 0≤1∧balE (num (l.take 6):Nat) (l.getD 6 0:Nat)=true then some (num (l.take 6),l.getD 6 0,l.getD 7 0) else none
theorem znV {l:List Nat} {x y h:Nat} (hr:recR l=some (x,y,h)):l.length=8∧h≤1∧balE (x:Nat) (y:Nat)=true∧num (l.take 6)=x∧l[6]?=some y∧l[7]?=some h:=by
 unfold recR at hr
 split at hr
 ·rename_i hc
  injection hr with hr
  injection hr with h1 hr
  injection hr with h2 h3
  subst h1 h2 h3
  exact ⟨hc.1,hc.2.1,hc.2.2,rfl,getD_some (by omega),getD_some (by omega)⟩
 ·cases hr
def rcL (x y h:Int):List Nat:=if recB x y h=true then recL x y h else []
def rcE (x y h:Int):Int:=if recB x y h=true then 0 else 2
theorem zjr {x y h:Int} (hb:recB x y h=true):rcL x y h=recL x y h:=if_pos hb
theorem ztb {x y h:Int} (hb:recB x y h=true):rcE x y h=0:=if_pos hb
theorem zuu {x y h:Int} (hb:recB x y h=false):rcL x y h=[]:=by unfold rcL;rw [hb];rfl
theorem zuP {x y h:Int} (hb:recB x y h=false):rcE x y h=2:=by unfold rcE;rw [hb];rfl
def rcR (l:List Nat):Nat × Nat × Nat × Int:=match recR l with | some (x,y,h)=>(x,y,h,0) | none=>(0,0,0,90)
theorem zhF {l:List Nat} {x y h:Nat} (hr:recR l=some (x,y,h)):rcR l=(x,y,h,0):=by unfold rcR;rw [hr]
theorem zdi {l:List Nat} (hr:recR l=none):rcR l=(0,0,0,90):=by unfold rcR;rw [hr]
theorem zkn {l:List Nat} (h:l.length≠8):recR l=none:=if_neg fun hc=>h hc.1
theorem zij {l:List Nat} {h:Nat} (h7:l[7]?=some h) (h1:1<h):recR l=none:=by
 unfold recR
 rw [if_neg]
 rintro ⟨_,h2,_⟩
 rw [List.getD_eq_getElem?_getD,h7] at h2
 simp at h2
 omega
theorem zlk {l:List Nat} {y:Nat} (h6:l[6]?=some y) (hb:balE (num (l.take 6):Nat) (y:Nat)=false):recR l=none:=by
 unfold recR
 rw [if_neg]
 rintro ⟨_,_,h2⟩
 rw [List.getD_eq_getElem?_getD,h6] at h2
 simp only [Option.getD_some] at h2
 rw [hb] at h2
 cases h2
theorem zlz {l:List Nat} {y h:Nat} (h8:l.length=8) (h6:l[6]?=some y) (h7:l[7]?=some h) (h1:h≤1) (hb:balE (num (l.take 6):Nat) (y:Nat)=true):recR l=some (num (l.take 6),y,h):=by
 unfold recR
 rw [show l.getD 6 0=y from by rw [List.getD_eq_getElem?_getD,h6];rfl,show l.getD 7 0=h from by rw [List.getD_eq_getElem?_getD,h7];rfl,if_pos ⟨h8,h1,hb⟩]
end
section
open Go
structure Rec where
 st:Nat:=0
 ix:Int:=0
 bx:Int:=0
 yb:Int:=0
 wh:Int:=0
instance (x:Rec):CoeDep Rec x (Array Value):=⟨#[.int .u8 (x.st:Int),.int .i64 x.ix,.int .i64 x.bx,.int .i64 x.yb,.int .i64 x.wh]⟩
instance (x:Rec):CoeDep Rec x (List Value):=⟨[.int .u8 (x.st:Int),.int .i64 x.ix,.int .i64 x.bx,.int .i64 x.yb,.int .i64 x.wh]⟩
instance:Inhabited Rec:=⟨{}⟩
structure CopL where
 st:Nat:=0
 ix:Int:=0
 bx:Int:=0
 yb:Int:=0
 e:Ent:={}
instance (x:CopL):CoeDep CopL x (Array Value):=⟨#[.int .u8 (x.st:Int),.int .i64 x.ix,.int .i64 x.bx,.int .i64 x.yb,.int .u8 (x.e.k:Int),.int .i64 x.e.cl,.int .i64 x.e.sq,.int .u8 (x.e.ok:Int),.string x.e.key,.string x.e.old,.string x.e.val]⟩
instance (x:CopL):CoeDep CopL x (List Value):=⟨[.int .u8 (x.st:Int),.int .i64 x.ix,.int .i64 x.bx,.int .i64 x.yb,.int .u8 (x.e.k:Int),.int .i64 x.e.cl,.int .i64 x.e.sq,.int .u8 (x.e.ok:Int),.string x.e.key,.string x.e.old,.string x.e.val]⟩
instance (x y:CopL):CoeDep (CopL × CopL) (x,y) (Array Value):=⟨#[.int .u8 (x.st:Int),.int .i64 x.ix,.int .i64 x.bx,.int .i64 x.yb,.int .u8 (x.e.k:Int),.int .i64 x.e.cl,.int .i64 x.e.sq,.int .u8 (x.e.ok:Int),.string x.e.key,.string x.e.old,.string x.e.val,.int .u8 (y.st:Int),.int .i64 y.ix,.int .i64 y.bx,.int .i64 y.yb,.int .u8 (y.e.k:Int),.int .i64 y.e.cl,.int .i64 y.e.sq,.int .u8 (y.e.ok:Int),.string y.e.key,.string y.e.old,.string y.e.val]⟩
instance (x y:CopL):CoeDep (CopL × CopL) (x,y) (List Value):=⟨[.int .u8 (x.st:Int),.int .i64 x.ix,.int .i64 x.bx,.int .i64 x.yb,.int .u8 (x.e.k:Int),.int .i64 x.e.cl,.int .i64 x.e.sq,.int .u8 (x.e.ok:Int),.string x.e.key,.string x.e.old,.string x.e.val,.int .u8 (y.st:Int),.int .i64 y.ix,.int .i64 y.bx,.int .i64 y.yb,.int .u8 (y.e.k:Int),.int .i64 y.e.cl,.int .i64 y.e.sq,.int .u8 (y.e.ok:Int),.string y.e.key,.string y.e.old,.string y.e.val]⟩
instance:Inhabited CopL:=⟨{}⟩
def Rec.of (p:Rec) (i:Int):Prop:=p.st=1∧p.ix=i
def CopL.of (c:CopL) (i:Int):Prop:=c.st=1∧c.ix=i
def gtL (x y a b:Int):Prop:=a<x∨(a=x∧b<y)
instance (p:Rec) (i:Int):Decidable (p.of i):=by unfold Rec.of;exact inferInstance
instance (c:CopL) (i:Int):Decidable (c.of i):=by unfold CopL.of;exact inferInstance
instance (x y a b:Int):Decidable (gtL x y a b):=by unfold gtL;exact inferInstance
def beyL (p:Rec) (f0 f1:CopL) (i:Int):Prop:=(p.st=1∧i<p.ix)∨(f0.st=1∧i<f0.ix)∨(f1.st=1∧i<f1.ix)
def badL (f0 f1:CopL):Prop:=f0.st=2∨f1.st=2
instance (p:Rec) (f0 f1:CopL) (i:Int):Decidable (beyL p f0 f1 i):=by unfold beyL;exact inferInstance
instance (f0 f1:CopL):Decidable (badL f0 f1):=by unfold badL;exact inferInstance
def zct (p:Rec) (c:CopL) (i:Int):Prop:=c.of i∧¬gtL p.bx p.yb c.bx c.yb
instance (p:Rec) (c:CopL) (i:Int):Decidable (zct p c i):=by unfold zct;exact inferInstance
def zco (a b h:Prop) [Decidable a] [Decidable b] [Decidable h]:Int:=if a∧b then (if h then 1 else 0) else if a then 0 else if b then 1 else -1
def whereL (p:Rec) (f0 f1:CopL) (i:Int):Int :=
 if p.of i then (if p.wh=1 then zco (zct p f0 i) (zct p f1 i) (¬gtL f0.bx f0.yb f1.bx f1.yb) else zco (zct p f0 i) (zct p f1 i) (gtL f1.bx f1.yb f0.bx f0.yb))
 else if beyL p f0 f1 i∨(p.st=2∧badL f0 f1) then -1
 else zco (f0.of i) (f1.of i) (gtL f1.bx f1.yb f0.bx f0.yb)
def classL (p:Rec) (f0 f1:CopL) (i:Int):Nat :=
 if 0≤whereL p f0 f1 i then 3 else if p.of i then 2 else if beyL p f0 f1 i∨(p.st=2∧badL f0 f1) then 2 else if badL f0 f1 then 1 else 0
def nextL (p:Rec) (f0 f1:CopL) (i:Int):Int :=
 if 0≤whereL p f0 f1 i then 1-whereL p f0 f1 i else if p.st=1∧p.wh=0 then 1 else 0
def cop (f0 f1:CopL) (k:Int):CopL:=if k=0 then f0 else f1
def repX (p:Rec) (f0 f1:CopL) (i:Int):Int:=if 0≤whereL p f0 f1 i then (cop f0 f1 (whereL p f0 f1 i)).bx else if p.of i then p.bx else 0
def repY (p:Rec) (f0 f1:CopL) (i:Int):Int:=if 0≤whereL p f0 f1 i then (cop f0 f1 (whereL p f0 f1 i)).yb else if p.of i then p.yb else 0
def repE (p:Rec) (f0 f1:CopL) (i:Int):Ent:=if 0≤whereL p f0 f1 i then (cop f0 f1 (whereL p f0 f1 i)).e else {}
theorem zdS {a b h:Prop} [Decidable a] [Decidable b] [Decidable h]:(zco a b h=-1∧¬a∧¬b)∨(zco a b h=0∧a∧(b→¬h))∨(zco a b h=1∧b∧(a→h)):=by
 unfold zco
 by_cases ha:a <;> by_cases hb:b <;> by_cases hh:h <;> simp [ha,hb,hh]
theorem zdm {p:Rec} {f0 f1:CopL} {i:Int}:(whereL p f0 f1 i=-1)∨(whereL p f0 f1 i=0∧f0.of i)∨(whereL p f0 f1 i=1∧f1.of i):=by
 unfold whereL
 split
 ·split
  ·rcases zdS (a:=zct p f0 i) (b:=zct p f1 i) (h:=¬gtL f0.bx f0.yb f1.bx f1.yb) with h | h | h
   ·exact .inl h.1
   ·exact .inr (.inl ⟨h.1,h.2.1.1⟩)
   ·exact .inr (.inr ⟨h.1,h.2.1.1⟩)
  ·rcases zdS (a:=zct p f0 i) (b:=zct p f1 i) (h:=gtL f1.bx f1.yb f0.bx f0.yb) with h | h | h
   ·exact .inl h.1
   ·exact .inr (.inl ⟨h.1,h.2.1.1⟩)
   ·exact .inr (.inr ⟨h.1,h.2.1.1⟩)
 ·split
  ·exact .inl rfl
  ·rcases zdS (a:=f0.of i) (b:=f1.of i) (h:=gtL f1.bx f1.yb f0.bx f0.yb) with h | h | h
   ·exact .inl h.1
   ·exact .inr (.inl ⟨h.1,h.2.1⟩)
   ·exact .inr (.inr ⟨h.1,h.2.1⟩)
theorem zpt (p:Rec) (f0 f1:CopL) (i:Int):(nextL p f0 f1 i=0∨nextL p f0 f1 i=1)∧(0≤whereL p f0 f1 i→nextL p f0 f1 i≠whereL p f0 f1 i):=by
 unfold nextL
 rcases zdm (p:=p) (f0:=f0) (f1:=f1) (i:=i) with h | ⟨h,_⟩ | ⟨h,_⟩ <;> rw [h]
 ·rw [if_neg (by omega)]
  split <;> simp
 ·simp
 ·simp
theorem zfr {p:Rec} {f0 f1:CopL} {i:Int}:classL p f0 f1 i=3↔0≤whereL p f0 f1 i:=by
 unfold classL
 by_cases h:0≤whereL p f0 f1 i
 ·simp [h]
 ·simp only [h,if_false]
  constructor
  ·intro hh
   split at hh
   ·omega
   ·split at hh
    ·omega
    ·split at hh <;> omega
  ·intro hh
   cases hh
end
theorem zca (k:Int) (hk:k=0∨k=1) (w:World):Calls Tryz.prog 67 #[.int .i64 k] w fun e w'=>e=.returned (.int .i64 (1-k))∧w'=w:=by
 rcases hk with rfl | rfl
 ·go_enter Tryz.func67,Tryz.ntmps67
  go_wp2
  go_ret
  exact ⟨rfl,rfl⟩
 ·go_enter Tryz.func67,Tryz.ntmps67
  go_wp2
  go_ret
  exact ⟨rfl,rfl⟩
theorem zme (k:Int) (hk:k=0∨k=1) (w:World):Calls Tryz.prog 125 #[.int .i64 k] w fun e w'=>e=.returned (.bool true)∧w'=w:=by
 rcases hk with rfl | rfl
 ·go_enter Tryz.func125,Tryz.ntmps125
  go_wp2
  go_ret
  exact ⟨rfl,rfl⟩
 ·go_enter Tryz.func125,Tryz.ntmps125
  go_wp2
  go_ret
  exact ⟨rfl,rfl⟩
theorem zcL (st ix i:Int) (w:World):Calls Tryz.prog 158 #[.int .u8 st,ix,i] w fun e w'=>e=.returned (.bool (st == 1 && ix == i))∧w'=w:=by
 obtain ⟨b,hb⟩:∃b,(st == 1)=b:=⟨_,rfl⟩
 obtain ⟨c,hc⟩:∃c,(ix == i)=c:=⟨_,rfl⟩
 rw [hb,hc]
 cases b <;>
 ·go_enter Tryz.func158,Tryz.ntmps158
  go_wp2
  go_ret
  exact ⟨rfl,rfl⟩
theorem zcf (st:Int) (w:World):Calls Tryz.prog 161 #[.int .u8 st] w fun e w'=>e=.returned (.bool (st != 0 && st != 1))∧w'=w:=by
 obtain ⟨b,hb⟩:∃b,(st != 0)=b:=⟨_,rfl⟩
 obtain ⟨c,hc⟩:∃c,(st != 1)=c:=⟨_,rfl⟩
 rw [hb,hc]
 cases b <;>
 ·go_enter Tryz.func161,Tryz.ntmps161
  go_wp2
  go_ret
  exact ⟨rfl,rfl⟩
theorem zqt (x:Int) (w:World):Calls Tryz.prog 198 #[.int .i64 x] w fun e w'=>e=.returned (.bool false)∧w'=w:=by
 go_enter Tryz.func198,Tryz.ntmps198
 go_wp2
 go_ret
 exact ⟨by simp,rfl⟩
def cmpI (x y:Int):Int:=if x<y then -1 else if y<x then 1 else 0
theorem zcJ (x y:Int):(cmpI x y=-1∧x<y)∨(cmpI x y=0∧x=y)∨(cmpI x y=1∧y<x):=by
 unfold cmpI
 by_cases h:x<y
 ·exact .inl ⟨if_pos h,h⟩
 ·rw [if_neg h]
  by_cases h2:y<x
  ·exact .inr (.inr ⟨if_pos h2,h2⟩)
  ·exact .inr (.inl ⟨if_neg h2,by omega⟩)
theorem zmE (x y:Int) (w:World):Calls Tryz.prog 185 #[x,y] w fun e w'=>e=.returned (.int .i64 (cmpI x y))∧w'=w:=by
 have HN:=qj zqt
 obtain ⟨z,hz⟩:∃z,cmpI x y=z:=⟨_,rfl⟩
 have hc:=zcJ x y
 rw [hz] at hc ⊢
 clear hz
 rcases hc with ⟨rfl,h⟩ | ⟨rfl,h⟩ | ⟨rfl,h⟩
 ·have h1:decide (x<y)=true:=decide_eq_true h
  go_enter Tryz.func185,Tryz.ntmps185
  go_wp2_with fail
  refine (HN.out _ _).mono ?_
  rintro e w1 ⟨rfl,rfl⟩
  go_wp2_with fail
  refine (HN.out _ _).mono ?_
  rintro e w1 ⟨rfl,rfl⟩
  go_wp2_with fail
  go_ret
  exact ⟨rfl,rfl⟩
 ·subst h
  go_enter Tryz.func185,Tryz.ntmps185
  go_wp2_with fail
  refine (HN.out _ _).mono ?_
  rintro e w1 ⟨rfl,rfl⟩
  go_wp2_with fail
  refine (HN.out _ _).mono ?_
  rintro e w1 ⟨rfl,rfl⟩
  go_wp2_with fail
  go_ret
  exact ⟨rfl,rfl⟩
 ·have h1:¬x<y:=by omega
  go_enter Tryz.func185,Tryz.ntmps185
  go_wp2_with fail
  refine (HN.out _ _).mono ?_
  rintro e w1 ⟨rfl,rfl⟩
  go_wp2_with fail
  refine (HN.out _ _).mono ?_
  rintro e w1 ⟨rfl,rfl⟩
  go_wp2_with fail
  go_ret
  exact ⟨rfl,rfl⟩
def orI (a b:Int):Int:=if a=0 then b else a
theorem zuZ (g c:Nat) (a b:Int) (w:World) (h0:w.cell? (aD g 0)=some (.int .i64 a)) (h1:w.cell? (aD g 1)=some (.int .i64 b)) :
 Calls Tryz.prog 184 #[.slice (some ⟨g,0,none⟩) 2 c] w fun e w'=>e=.returned (.int .i64 (orI a b))∧w'=w:=by
 by_cases ha:a=0
 ·subst ha
  by_cases hb:b=0
  ·subst hb
   go_enter Tryz.func184,Tryz.ntmps184
   go_wp2_with fail
   refine wp_loop_rounds 3 ?_
   rw [rounds_succ]
   go_wp2_with fail
   rw [rounds_succ]
   go_wp2_with fail
   rw [rounds_succ]
   go_wp2_with fail
   go_ret
   exact ⟨rfl,rfl⟩
  ·have hb2:(b != 0)=true:=by simpa using hb
   go_enter Tryz.func184,Tryz.ntmps184
   go_wp2_with fail
   refine wp_loop_rounds 3 ?_
   rw [rounds_succ]
   go_wp2_with fail
   rw [rounds_succ]
   go_wp2_with fail
   go_ret
   exact ⟨rfl,rfl⟩
 ·have ha2:(a != 0)=true:=by simpa using ha
  have he:orI a b=a:=if_neg ha
  rw [he]
  go_enter Tryz.func184,Tryz.ntmps184
  go_wp2_with fail
  refine wp_loop_rounds 3 ?_
  rw [rounds_succ]
  go_wp2_with fail
  go_ret
  exact ⟨rfl,rfl⟩
section
open Go
def eL (e:Ent):List Nat:=if enOk e=true then enL e else []
def eR (e:Ent):Int:=if enOk e=true then 0 else 2
theorem zjo {e:Ent} (h:enOk e=true):eL e=enL e:=if_pos h
theorem zjV {e:Ent} (h:enOk e=true):eR e=0:=if_pos h
theorem zrm {e:Ent} (h:enOk e=false):eL e=[]:=by unfold eL;rw [h];rfl
theorem zra {e:Ent} (h:enOk e=false):eR e=2:=by unfold eR;rw [h];rfl
def pL (x y:Int) (e:Ent):List Nat:=if balE x y=true∧enOk e=true then zbb x y e else []
def pR (x y:Int) (e:Ent):Int:=if balE x y=true∧enOk e=true then 0 else 2
theorem zjN {x y:Int} {e:Ent} (hb:balE x y=true) (h:enOk e=true):pL x y e=zbb x y e:=if_pos ⟨hb,h⟩
theorem zif {x y:Int} {e:Ent} (hb:balE x y=true) (h:enOk e=true):pR x y e=0:=if_pos ⟨hb,h⟩
theorem zqL {x y:Int} {e:Ent} (hb:balE x y=false):pL x y e=[]:=by unfold pL;rw [hb,if_neg (by simp)]
theorem zrG {x y:Int} {e:Ent} (hb:balE x y=false):pR x y e=2:=by unfold pR;rw [hb,if_neg (by simp)]
theorem ztI {x y:Int} {e:Ent} (h:enOk e=false):pL x y e=[]:=by unfold pL;rw [h,if_neg (by simp)]
theorem ztY {x y:Int} {e:Ent} (h:enOk e=false):pR x y e=2:=by unfold pR;rw [h,if_neg (by simp)]
def rdE (l:List Nat) (a:Int):Ent × Nat × Int:=if a<0∨(l.length:Int)<a then ({},0,2) else match enR l a.toNat with | some (e,n)=>(e,n,0) | none=>({},0,90)
theorem znA {l:List Nat} {a:Int} (h:a<0∨(l.length:Int)<a):rdE l a=({},0,2):=if_pos h
theorem zhk {l:List Nat} {a n:Nat} {e:Ent} (ha:a≤l.length) (h:enR l a=some (e,n)):rdE l (a:Int)=(e,n,0):=by
 unfold rdE
 rw [if_neg (by omega),Int.toNat_natCast,h]
theorem zee {l:List Nat} {a:Nat} (ha:a≤l.length) (h:enR l a=none):rdE l (a:Int)=({},0,90):=by
 unfold rdE
 rw [if_neg (by omega),Int.toNat_natCast,h]
def psE (l:List Nat):Nat × Nat × Ent × Int:=match bdR l with | some (x,y,e)=>(x,y,e,0) | none=>(0,0,{},90)
theorem zfc {l:List Nat} {x y:Nat} {e:Ent} (h:bdR l=some (x,y,e)):psE l=(x,y,e,0):=by unfold psE;rw [h]
theorem zec {l:List Nat} (h:bdR l=none):psE l=(0,0,{},90):=by unfold psE;rw [h]
theorem zqo {l:List Nat} {a n:Nat} {e:Ent} (h:zbF l a=some (e,n)) (hk:enOk e=false):enR l a=none:=by unfold enR;rw [h];simp [hk]
theorem zgD {l:List Nat} {a n:Nat} {e:Ent} (h:zbF l a=some (e,n)) (hk:enOk e=true):enR l a=some (e,n):=by unfold enR;rw [h];simp [hk]
theorem zcx {l:List Nat} {a:Nat} (h:zbF l a=none):enR l a=none:=by unfold enR;rw [h];rfl
theorem zhP {l:List Nat} {a:Nat} (h:l[a]?=some 1):zbF l a=some ({ k:=1 },a+1):=by unfold zbF;rw [if_pos h]
theorem zlm {l:List Nat} {a b1 b2 b3:Nat} {s1 s2 s3:ByteArray} (h:l[a]?=some 2) (h9:a+9≤l.length) (r1:rdT l (a+9)=some (s1,b1)) (r2:rdT l b1=some (s2,b2)) (r3:rdT l b2=some (s3,b3)) :
 zbF l a=some ({ k:=2,cl:=(l.getD (a+1) 0:Nat),sq:=(num ((l.drop (a+2)).take 6):Nat),ok:=l.getD (a+8) 0,key:=s1,old:=s2,val:=s3 },b3):=by
 unfold zbF
 rw [if_neg (by rw [h];simp),if_pos ⟨h,h9⟩,r1]
 simp only [Option.bind_some]
 rw [r2]
 simp only [Option.bind_some]
 rw [r3]
 rfl
theorem zhM {l:List Nat} {a x:Nat} (h:l[a]?=some x) (h1:x≠1) (h2:x≠2):zbF l a=none:=by
 unfold zbF
 rw [if_neg (by rw [h];simpa using h1),if_neg (by rw [h];simp [h2])]
theorem zja {l:List Nat} {a:Nat} (h:l.length≤a):zbF l a=none:=by
 unfold zbF
 rw [if_neg (by rw [List.getElem?_eq_none h];simp),if_neg (by rw [List.getElem?_eq_none h];simp)]
theorem zhR {l:List Nat} {a:Nat} (h:l[a]?=some 2) (h9:l.length<a+9):zbF l a=none:=by
 unfold zbF
 rw [if_neg (by rw [h];simp),if_neg (by omega)]
theorem zkD {l:List Nat} {a:Nat} (h:l[a]?=some 2) (r1:rdT l (a+9)=none):zbF l a=none:=by
 unfold zbF
 rw [if_neg (by rw [h];simp),r1]
 split <;> rfl
theorem zkv {l:List Nat} {a b1:Nat} {s1:ByteArray} (h:l[a]?=some 2) (r1:rdT l (a+9)=some (s1,b1)) (r2:rdT l b1=none):zbF l a=none:=by
 unfold zbF
 rw [if_neg (by rw [h];simp),r1]
 split
 ·simp only [Option.bind_some]
  rw [r2]
  rfl
 ·rfl
theorem zkL {l:List Nat} {a b1 b2:Nat} {s1 s2:ByteArray} (h:l[a]?=some 2) (r1:rdT l (a+9)=some (s1,b1)) (r2:rdT l b1=some (s2,b2)) (r3:rdT l b2=none):zbF l a=none:=by
 unfold zbF
 rw [if_neg (by rw [h];simp),r1]
 split
 ·simp only [Option.bind_some]
  rw [r2]
  simp only [Option.bind_some]
  rw [r3]
  rfl
 ·rfl
theorem zdE {e:Ent} (h:¬((e.k=1∧e.cl=0∧e.sq=0∧e.ok=0∧e.key.size=0∧e.old.size=0∧e.val.size=0)∨(e.k=2∧0≤e.cl∧e.cl≤3∧1≤e.sq∧e.sq≤1099511627776∧(1≤e.key.size∧e.key.size≤8∧e.old.size≤16∧e.val.size≤16∧(((e.ok=1∨e.ok=3)∧e.old.size=0∧e.val.size=0)∨(e.ok=2∧e.old.size=0)∨e.ok=4))∧e.ok≠1))):enOk e=false:=by
 rw [Bool.eq_false_iff]
 intro hk
 have:=zcS.1 hk
 rw [zcH] at this
 exact h this
theorem znB {e:Ent} (h:enOk e=true):((e.k=1∧e.cl=0∧e.sq=0∧e.ok=0∧e.key.size=0∧e.old.size=0∧e.val.size=0)∨(e.k=2∧0≤e.cl∧e.cl≤3∧1≤e.sq∧e.sq≤1099511627776∧(1≤e.key.size∧e.key.size≤8∧e.old.size≤16∧e.val.size≤16∧(((e.ok=1∨e.ok=3)∧e.old.size=0∧e.val.size=0)∨(e.ok=2∧e.old.size=0)∨e.ok=4))∧e.ok≠1)):=by
 have:=zcS.1 h
 rw [zcH] at this
 exact this
end
section
open Go
def nmS (l:List Nat) (a w:Nat):Nat × Nat × Bool:=if a+w≤l.length then (num ((l.drop a).take w),a+w,false) else (0,a,true)
def txS (l:List Nat) (a:Nat):ByteArray × Nat × Bool:=match rdT l a with | some (s,b)=>(s,b,false) | none=>(ByteArray.empty,a,true)
theorem zbM {l:List Nat} {a w:Nat} (h:a+w≤l.length):nmS l a w=(num ((l.drop a).take w),a+w,false):=if_pos h
theorem zed {l:List Nat} {a w:Nat} (h:l.length<a+w):nmS l a w=(0,a,true):=if_neg (by omega)
theorem zuK {l:List Nat} {a w:Nat} (h:a≤l.length):(nmS l a w).2.1≤l.length:=by
 unfold nmS
 split
 ·assumption
 ·exact h
theorem zro {l:List Nat} (hl:∀x∈l,x<256) (a w:Nat):(nmS l a w).1<256 ^ w:=by
 unfold nmS
 split
 ·exact zft hl a w
 ·exact Nat.pow_pos (by omega)
theorem zgE {l:List Nat} {a x:Nat} (h:l[a]?=some x):nmS l a 1=(x,a+1,false):=by
 have ha:a<l.length:=(List.getElem?_eq_some_iff.1 h).1
 rw [zbM (by omega),zgP h]
 simp [num]
theorem znp {l:List Nat} {a w:Nat} (hw:wOk w=true) (h:a≤l.length):getS l (a:Int) (w:Int)=if (nmS l a w).2.2=true then (0,0,10) else ((nmS l a w).1,(nmS l a w).2.1,0):=by
 by_cases hs:a+w≤l.length
 ·rw [zbM hs,zbJ hw (by omega) (by omega) (by omega)]
  simp
 ·rw [zed (by omega),zba hw (by omega) (by omega) (by omega)]
  simp
theorem zsM {l:List Nat} {a w:Nat} (h:(nmS l a w).2.2=true):nmS l a w=(0,a,true):=by
 by_cases hs:a+w≤l.length
 ·rw [zbM hs] at h;cases h
 ·exact zed (by omega)
theorem zfy {l:List Nat} {a:Nat} (h:(txS l a).2.2=true):txS l a=(ByteArray.empty,a,true)∧rdT l a=none:=by
 unfold txS at h ⊢
 split at h
 ·cases h
 ·rename_i hr
  rw [hr]
  exact ⟨rfl,rfl⟩
theorem zfI {l:List Nat} {a:Nat} (h:(txS l a).2.2=false):rdT l a=some ((txS l a).1,(txS l a).2.1):=by
 unfold txS at h ⊢
 split at h
 ·rename_i hr
  rw [hr]
 ·cases h
theorem zuB {l:List Nat} {a:Nat} (h:a≤l.length):(txS l a).2.1≤l.length:=by
 unfold txS
 split
 ·rename_i hr
  obtain ⟨n,_,h2,_,h4⟩:=zjF h hr
  dsimp only
  omega
 ·exact h
theorem zhA {l:List Nat} {a:Nat} (ha:a≤l.length) (h:rdT l a=none):zaN l (a:Int)=([],0,10):=by
 by_cases hlt:a<l.length
 ·have hx:l[a]?=some l[a]:=List.getElem?_eq_getElem hlt
  by_cases hn:a+1+l[a]≤l.length
  ·rw [zlw hx hn] at h
   cases h
  ·exact zdP hx (by omega)
 ·have he:a=l.length:=by omega
  subst he
  exact zfC zgK (by omega)
theorem zii {l:List Nat} {a b:Nat} {s:ByteArray} (ha:a≤l.length) (h:rdT l a=some (s,b)):str (zaN l (a:Int)).1=s∧(zaN l (a:Int)).2.1=b∧(zaN l (a:Int)).2.2=0:=by
 obtain ⟨n,h1,h2,h3,h4⟩:=zjF ha h
 rw [zgc h1 h2]
 exact ⟨h3.symm,h4.symm,rfl⟩
theorem zry {l:List Nat} {a:Nat} (ha:a≤l.length):(str (zaN l (a:Int)).1=(txS l a).1)∧(((txS l a).2.2=true∧(zaN l (a:Int)).2.1=0∧(zaN l (a:Int)).2.2=10)∨((txS l a).2.2=false∧(zaN l (a:Int)).2.1=(txS l a).2.1∧(zaN l (a:Int)).2.2=0)):=by
 cases hb:(txS l a).2.2 with
 | true =>
  obtain ⟨e,hn⟩:=zfy hb
  rw [zhA ha hn,e]
  exact ⟨rfl,.inl ⟨rfl,rfl,rfl⟩⟩
 | false =>
  obtain ⟨h1,h2,h3⟩:=zii ha (zfI hb)
  exact ⟨h1,.inr ⟨rfl,h2,h3⟩⟩
def opA (l:List Nat) (a:Nat):Nat:=(nmS l a 1).2.1
def opB (l:List Nat) (a:Nat):Nat:=(txS l (opA l a)).2.1
def opC (l:List Nat) (a:Nat):Nat:=(txS l (opB l a)).2.1
def opD (l:List Nat) (a:Nat):Nat:=(txS l (opC l a)).2.1
def zeN (l:List Nat) (a:Nat):Bool:=(nmS l a 1).2.2 || (txS l (opA l a)).2.2 || (txS l (opB l a)).2.2 || (txS l (opC l a)).2.2
def enA (l:List Nat) (a:Nat):Nat:=(nmS l a 1).2.1
def enB (l:List Nat) (a:Nat):Nat:=(nmS l (enA l a) 1).2.1
def enC (l:List Nat) (a:Nat):Nat:=(nmS l (enB l a) 6).2.1
def enS (l:List Nat) (a:Nat):Ent × Nat × Bool :=
 if (nmS l a 1).1=2 then
  ({ k:=2,cl:=((nmS l (enA l a) 1).1:Nat),sq:=((nmS l (enB l a) 6).1:Nat),ok:=(nmS l (enC l a) 1).1,key:=(txS l (opA l (enC l a))).1,old:=(txS l (opB l (enC l a))).1,val:=(txS l (opC l (enC l a))).1 },
   opD l (enC l a),(nmS l a 1).2.2 || (nmS l (enA l a) 1).2.2 || (nmS l (enB l a) 6).2.2 || zeN l (enC l a))
 else ({ k:=(nmS l a 1).1 },enA l a,(nmS l a 1).2.2)
theorem ziH {a b c d:Bool} (h:(a || b || c || d)=false):a=false∧b=false∧c=false∧d=false:=by
 cases a <;> cases b <;> cases c <;> cases d <;> simp_all
theorem zqq {l:List Nat} {a:Nat} (ha:a≤l.length) :
 ((enS l a).2.2=false∧enOk (enS l a).1=true∧enR l a=some ((enS l a).1,(enS l a).2.1))∨(((enS l a).2.2=true∨enOk (enS l a).1=false)∧enR l a=none):=by
 by_cases hlt:a<l.length
 ·obtain ⟨x,hx⟩:∃x,l[a]?=some x:=⟨_,List.getElem?_eq_getElem hlt⟩
  have hn:=zgE hx
  have hA:enA l a=a+1:=by unfold enA;rw [hn]
  by_cases h2:x=2
  ·subst h2
   have hS:enS l a=({ k:=2,cl:=((nmS l (enA l a) 1).1:Nat),sq:=((nmS l (enB l a) 6).1:Nat),ok:=(nmS l (enC l a) 1).1,key:=(txS l (opA l (enC l a))).1,old:=(txS l (opB l (enC l a))).1,val:=(txS l (opC l (enC l a))).1 },opD l (enC l a),(nmS l a 1).2.2 || (nmS l (enA l a) 1).2.2 || (nmS l (enB l a) 6).2.2 || zeN l (enC l a)):=by
    unfold enS
    rw [if_pos (by rw [hn])]
   cases hb:(enS l a).2.2 with
   | true =>
    refine .inr ⟨.inl rfl,zcx ?_⟩
    rw [hS] at hb
    dsimp only at hb
    rw [hn,hA] at hb
    by_cases h9:a+9≤l.length
    ·have e1:nmS l (a+1) 1=(num ((l.drop (a+1)).take 1),a+2,false):=zbM (by omega)
     have hB:enB l a=a+2:=by unfold enB;rw [hA,e1]
     have e2:nmS l (a+2) 6=(num ((l.drop (a+2)).take 6),a+8,false):=zbM (by omega)
     have hC:enC l a=a+8:=by unfold enC;rw [hB,e2]
     have e3:nmS l (a+8) 1=(num ((l.drop (a+8)).take 1),a+9,false):=zbM (by omega)
     have hOA:opA l (a+8)=a+9:=by unfold opA;rw [e3]
     rw [hB,e1,e2,hC] at hb
     simp only [Bool.or_false,Bool.false_or] at hb
     unfold zeN at hb
     rw [e3,hOA] at hb
     simp only [Bool.false_or] at hb
     cases t1:(txS l (a+9)).2.2 with
     | true=>exact zkD hx (zfy t1).2
     | false =>
      have r1:=zfI t1
      have hOB:opB l (a+8)=(txS l (a+9)).2.1:=by unfold opB;rw [hOA]
      rw [t1,hOB] at hb
      cases t2:(txS l (txS l (a+9)).2.1).2.2 with
      | true=>exact zkv hx r1 (zfy t2).2
      | false =>
       have r2:=zfI t2
       have hOC:opC l (a+8)=(txS l (txS l (a+9)).2.1).2.1:=by unfold opC;rw [hOB]
       rw [t2,hOC] at hb
       simp only [Bool.false_or] at hb
       exact zkL hx r1 r2 (zfy hb).2
    ·exact zhR hx (by omega)
   | false =>
    rw [hS] at hb
    dsimp only at hb
    obtain ⟨_,b1,b2,b3⟩:=ziH hb
    unfold zeN at b3
    obtain ⟨b4,t1,t2,t3⟩:=ziH b3
    rw [hA] at b1
    have g1:a+2≤l.length:=by
     by_cases h:a+1+1≤l.length
     ·exact h
     ·rw [zed (by omega)] at b1;cases b1
    have e1:nmS l (a+1) 1=(num ((l.drop (a+1)).take 1),a+2,false):=zbM (by omega)
    have hB:enB l a=a+2:=by unfold enB;rw [hA,e1]
    rw [hB] at b2
    have g2:a+8≤l.length:=by
     by_cases h:a+2+6≤l.length
     ·exact h
     ·rw [zed (by omega)] at b2;cases b2
    have e2:nmS l (a+2) 6=(num ((l.drop (a+2)).take 6),a+8,false):=zbM (by omega)
    have hC:enC l a=a+8:=by unfold enC;rw [hB,e2]
    rw [hC] at b4 t1 t2 t3
    have g3:a+9≤l.length:=by
     by_cases h:a+8+1≤l.length
     ·exact h
     ·rw [zed (by omega)] at b4;cases b4
    have e3:nmS l (a+8) 1=(l.getD (a+8) 0,a+9,false):=zgE (getD_some (by omega))
    have e1':nmS l (a+1) 1=(l.getD (a+1) 0,a+2,false):=zgE (getD_some (by omega))
    have hOA:opA l (a+8)=a+9:=by unfold opA;rw [e3]
    have hOB:opB l (a+8)=(txS l (a+9)).2.1:=by unfold opB;rw [hOA]
    have hOC:opC l (a+8)=(txS l (txS l (a+9)).2.1).2.1:=by unfold opC;rw [hOB]
    have hOD:opD l (a+8)=(txS l (txS l (txS l (a+9)).2.1).2.1).2.1:=by unfold opD;rw [hOC]
    rw [hOA] at t1
    rw [hOB] at t2
    rw [hOC] at t3
    have hr:=zlm hx g3 (zfI t1) (zfI t2) (zfI t3)
    have hS1:(enS l a).1={ k:=2,cl:=(l.getD (a+1) 0:Nat),sq:=(num ((l.drop (a+2)).take 6):Nat),ok:=l.getD (a+8) 0,key:=(txS l (a+9)).1,old:=(txS l (txS l (a+9)).2.1).1,val:=(txS l (txS l (txS l (a+9)).2.1).2.1).1 }:=by
     rw [hS,hA,hB,hC,e1',e2,e3,hOA,hOB,hOC]
    have hS2:(enS l a).2.1=(txS l (txS l (txS l (a+9)).2.1).2.1).2.1:=by
     rw [hS,hC,hOD]
    rw [←hS1,←hS2] at hr
    cases hk:enOk (enS l a).1 with
    | true=>exact .inl ⟨rfl,rfl,zgD hr hk⟩
    | false=>exact .inr ⟨.inr rfl,zqo hr hk⟩
  ·have hS:enS l a=({ k:=x },a+1,false):=by
    unfold enS
    rw [if_neg (by rw [hn];exact h2),hA,hn]
   rw [hS]
   dsimp only
   by_cases h1:x=1
   ·subst h1
    have hk:enOk { k:=1 }=true:=by decide
    exact .inl ⟨rfl,hk,zgD (zhP hx) hk⟩
   ·exact .inr ⟨.inr (zdE (by dsimp only;omega)),zcx (zhM hx h1 h2)⟩
 ·have hn:nmS l a 1=(0,a,true):=zed (by omega)
  refine .inr ⟨.inl ?_,zcx (zja (by omega))⟩
  unfold enS
  rw [if_neg (by rw [hn];simp),hn]
def psB (l:List Nat):Bool:=(nmS l 0 6).2.2 || (nmS l (nmS l 0 6).2.1 1).2.2
def psA (l:List Nat):Nat:=(nmS l (nmS l 0 6).2.1 1).2.1
theorem zqd {l:List Nat} :
 ((psB l=false∧(enS l (psA l)).2.2=false∧(enS l (psA l)).2.1=l.length∧balE ((nmS l 0 6).1:Nat) ((nmS l (nmS l 0 6).2.1 1).1:Nat)=true∧enOk (enS l (psA l)).1=true)∧bdR l=some ((nmS l 0 6).1,(nmS l (nmS l 0 6).2.1 1).1,(enS l (psA l)).1)) ∨
 ((psB l=true∨(enS l (psA l)).2.2=true∨(enS l (psA l)).2.1≠l.length∨balE ((nmS l 0 6).1:Nat) ((nmS l (nmS l 0 6).2.1 1).1:Nat)=false∨enOk (enS l (psA l)).1=false)∧bdR l=none):=by
 by_cases h7:l.length<7
 ·refine .inr ⟨.inl ?_,by unfold bdR;rw [if_pos h7]⟩
  unfold psB
  by_cases h6:l.length<6
  ·rw [zed (by omega)];rfl
  ·rw [zbM (by omega)]
   dsimp only
   rw [zed (by omega)]
   rfl
 ·have e1:nmS l 0 6=(num (l.take 6),6,false):=by rw [zbM (by omega)];simp
  have e2:nmS l 6 1=(l.getD 6 0,7,false):=zgE (getD_some (by omega))
  have hA:psA l=7:=by unfold psA;rw [e1];dsimp only;rw [e2]
  have hB:psB l=false:=by unfold psB;rw [e1];dsimp only;rw [e2];rfl
  rw [hA,hB,e1]
  dsimp only
  rw [e2]
  dsimp only
  have hd:bdR l=(enR l 7).bind fun r=>if r.2=l.length∧balE (num (l.take 6):Nat) (l.getD 6 0:Nat)=true then some (num (l.take 6),l.getD 6 0,r.1) else none:=by
   unfold bdR
   rw [if_neg h7]
  rcases zqq (l:=l) (a:=7) (by omega) with ⟨h1,h2,h3⟩ | ⟨h1,h3⟩
  ·rw [hd,h3]
   simp only [Option.bind_some]
   by_cases hn:(enS l 7).2.1=l.length
   ·cases hb:balE (num (l.take 6):Nat) (l.getD 6 0:Nat) with
    | true=>rw [if_pos ⟨hn,rfl⟩];exact .inl ⟨⟨trivial,h1,hn,rfl,h2⟩,rfl⟩
    | false=>rw [if_neg (by simp)];exact .inr ⟨.inr (.inr (.inr (.inl rfl))),rfl⟩
   ·rw [if_neg (fun h=>hn h.1)]
    exact .inr ⟨.inr (.inr (.inl hn)),rfl⟩
  ·rw [hd,h3]
   refine .inr ⟨?_,rfl⟩
   rcases h1 with h1 | h1
   ·exact .inr (.inl h1)
   ·exact .inr (.inr (.inr (.inr h1)))
end
end Go.Proofs.YtdbpdhlecgoclaaGreatDoor
