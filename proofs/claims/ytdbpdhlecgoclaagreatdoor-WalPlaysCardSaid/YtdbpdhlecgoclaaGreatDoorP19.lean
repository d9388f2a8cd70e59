/-
  The ghost statements' Do and Same: an act at the program's disk,at the document's;both side by side.
-/
import Derived.Test.YtdbpdhlecgoclaaGreatDoorP00
import Derived.Test.YtdbpdhlecgoclaaGreatDoorP09
import Derived.Test.YtdbpdhlecgoclaaGreatDoorP13
import Derived.Test.YtdbpdhlecgoclaaGreatDoorP16
import Derived.Test.YtdbpdhlecgoclaaGreatDoorP17
import Derived.Test.YtdbpdhlecgoclaaGreatDoorP18
import Derived.Lib.Hide
import Derived.Shelf.Abstract
namespace Go.Proofs.YtdbpdhlecgoclaaGreatDoor
set_option maxRecDepth 100000
set_option maxHeartbeats 6400000
open Go Go.RowKit
theorem zoP {w0 w w2 v:World} {d:Nat} {F F':Nat→Prop} {m:DM} (hF:∀i,F i→i<w.heap.size) (hx:Ext w w2) (h:Left w0 w2 d F' (fun i=>F i∨w2.heap.size≤i) v m):Step d F w m v :=
 ⟨h.dk.disk.more (fun i hi=>(h.le i hi).imp id fun h1=>⟨Nat.le_trans hx.size h1,h.dk.disk.lt i hi⟩) (fun i hi=>hi.elim (fun h1=>Nat.lt_of_lt_of_le (hF i h1) (Nat.le_trans hx.size h.mod.size)) (fun h1=>h1.2)),
  (Mod.of_ext hx).trans h.mod fun _ hi=>hi.imp id fun h1=>Nat.le_trans hx.size h1⟩
structure RLeft (w2:World) (d:Nat) (p p':Nat→Nat) (v:World) (m:DM):Prop where
 rd:RD v d p' m
 le:∀i,p' i≠0→p i≠0∨w2.heap.size≤i
 mod:Mod (fun i=>p i≠0∨w2.heap.size≤i) w2 v
section
variable {w0 w w2 v v':World} {d:Nat} {p p':Nat→Nat} {m m2:DM}
theorem RLeft.ext (h:RLeft w2 d p p' v m) (hx:Ext v v'):RLeft w2 d p p' v' m:=⟨h.rd.ext hx,h.le,h.mod.ext hx⟩
theorem RLeft.bel (h:RLeft w2 d p p' v m) (hx:Ext w0 w2) (hl:∀i,p i≠0→w0.heap.size≤i):Ext w0 v:=Below.mod hx h.mod hx.size fun i hi=>hi.elim (hl i) fun h1=>Nat.le_trans hx.size h1
theorem RLeft.step (h:RLeft w2 d p p' v m) (ho:ROut d p' v m2 v'):∃p2,RLeft w2 d p p2 v' m2:=by
 obtain ⟨p2,h1,h2,h3⟩:=ho
 exact ⟨p2,h1,fun i hi=>(h3 i hi).elim (h.le i) fun h4=>.inr (Nat.le_trans h.mod.size h4),h.mod.trans h2 fun i hi=>.inl (h.le i hi)⟩
theorem RLeft.out (hx:Ext w w2) (h:RLeft w2 d p p' v m):ROut d p w m v :=
 ⟨p',h.rd,((Mod.of_ext hx).trans (F:=fun k=>p k≠0) h.mod fun _ hi=>hi.imp id fun h1=>Nat.le_trans hx.size h1),fun i hi=>(h.le i hi).imp id fun h1=>Nat.le_trans hx.size h1⟩
end
theorem zms {G:Nat→Prop} {p:Nat→Nat} {g o o':Nat} (hp:∀i,p i≠0→G i) (h:Off G (some ⟨g,o,none⟩)):¬∃g2 o2,(some ⟨g,o',none⟩:Option Addr)=some ⟨g2,o2,none⟩∧p g2≠0:=by
 rintro ⟨g2,o2,e,hg⟩
 injection e with e
 injection e with e _
 subst e
 exact h _ rfl (hp _ hg)
theorem zrB {w0 w:World} {d:Nat} {F:Nat→Prop} {m:DM} (h:DK w0 w d F m) (hL:zbo w0) (x:Act6) (hx:x.Ok w0 w0.heap.size) (hs:x.sl=true) (hfew:m.waits.length≤1000) :
 Calls Tryz.prog 14 #[aD d 0,.agg x] w fun e w'=>(∃v,e=.returned v)∧Step d F w (m.act6 x) w':=by
 have hB:=heap_alloc_new w (box6 x)
 have hE:=(Ext.refl w).alloc (box6 x)
 have hlt:w.heap.size<(w.alloc (box6 x)).heap.size:=by simp
 have HB:=qj hB
 have HE:=qj hE
 have H:=qj h
 have HL:=qj hL
 have HBY:Hid (By w x.bA x.bn x.bc x.bl):=qj ((hx.body.below h.bel).more h.bel.size)
 obtain ⟨c0,c1,c2,c3,c4,c5,c6,c7,c8,c9,c10,c11⟩:=zdI hB
 obtain ⟨W,hW⟩:∃W,zdJ x.ta x.tb x.tc x.td x.te=W:=⟨_,rfl⟩
 have hW2:=zhW x.ta x.tb x.tc x.td x.te
 rw [hW] at hW2
 obtain ⟨E,hEE⟩:∃E,x.sE=E:=⟨_,rfl⟩
 obtain ⟨L,hLL⟩:∃L,x.sL=L:=⟨_,rfl⟩
 obtain ⟨S,hS⟩:∃S,zai x.tb x.tc=S:=⟨_,rfl⟩
 have hSb:-1≤S∧S≤156:=by rw [←hS];exact zeI x.tb x.tc
 have HACT:Hid (m.act6 x=if E=0 then m.puts S L W else m):=qj (by unfold DM.act6;rw [if_pos hs,hEE,hS,hLL,hW])
 have hwd:∀V,Ext w0 V→Calls Tryz.prog 46 #[.agg #[x.ta,x.tb,x.tc,x.td,x.te]] V fun r w'=>r=.returned (.int .i64 (W:Nat))∧Ext V w':=fun V hV=>by
  have:=zjb x.ta x.tb x.tc x.td x.te V (hL.ext hV)
  rwa [hW] at this
 have hsl:∀V,Ext w V→Calls Tryz.prog 45 #[.agg #[x.ta,x.tb,x.tc,x.td,x.te],.slice x.bA x.bn x.bc,.int .i64 (W:Nat)] V fun r w'=>∃A' c',r=.returned (.tuple #[.slice A' L.length c',E])∧By w' A' L.length c' L∧Ext V w'∧w'.ownsRow V.heap.size 5 1 (.slice A' L.length c') L.length (vb L):=fun V hV=>by
  have:=zeD x.ta x.tb x.tc x.td x.te (W:Nat) x.bA x.bn x.bc x.bl V (HBY.out.ext hV)
  unfold Act6.sE Act6.sL at *
  rw [hW] at hEE hLL
  rwa [hEE,hLL] at this
 have hlen:E=0→L.length=64 * W∧1≤W:=fun h0=>by
  have hbl:x.bl.length=x.bn:=hx.body.len
  unfold Act6.sE at hEE
  unfold Act6.sL at hLL
  rw [hW] at hEE hLL
  rw [←hLL]
  have:=(zbd (a:=x.ta) (b:=x.tb) (c:=x.tc) (d:=x.td) (e:=x.te) (body:=x.bl) (s:=(W:Nat)) (by rw [hbl,hEE];exact h0))
  rw [this.1,Int.toNat_natCast]
  exact ⟨rfl,by omega⟩
 have hfst:∀V,Ext w0 V→Calls Tryz.prog 48 #[x.tb,x.tc] V fun r w'=>r=.returned S∧Ext V w':=fun V hV=>by
  have:=zeK x.tb x.tc V (hL.ext hV)
  rwa [hS] at this
 have HWD:=qj hwd
 have HSL:=qj hsl
 have HLEN:=qj hlen
 rw [hs] at c0 ⊢
 have hBX:box6 x=.cells #[.bool true,x.ta,x.tb,x.tc,x.td,x.te,.slice x.bA x.bn x.bc,x.act.kind,x.act.sec,x.act.num,.slice x.act.bA x.act.bn x.act.bc,.slice x.act.kA x.act.kn x.act.kc] 50:=by unfold box6;rw [hs]
 rw [hBX] at hE c0 c1 c2 c3 c4 c5 c6 c7 c8 c9 c10 c11
 have HEX:Hid (Ext w (w.alloc (.cells #[.bool true,x.ta,x.tb,x.tc,x.td,x.te,.slice x.bA x.bn x.bc,x.act.kind,x.act.sec,x.act.num,.slice x.act.bA x.act.bn x.act.bc,.slice x.act.kA x.act.kn x.act.kc] 50)).drew):=qj hE.drew
 have HS:=qj hfst
 have HEX0:=qj (h.bel.trans HEX.out)
 rw [hBX] at HB hlt
 clear h hL hx hEE hLL hS hW hwd hsl hlen hfst HBY hB hE HE
 go_enter Tryz.func14,Tryz.ntmps14
 go_wp2_with fail
 have hk1:Hid (Ext (w.alloc (.cells #[.bool true,x.ta,x.tb,x.tc,x.td,x.te,.slice x.bA x.bn x.bc,x.act.kind,x.act.sec,x.act.num,.slice x.act.bA x.act.bn x.act.bc,.slice x.act.kA x.act.kn x.act.kc] 50)).drew (w.alloc (.cells #[.bool true,x.ta,x.tb,x.tc,x.td,x.te,.slice x.bA x.bn x.bc,x.act.kind,x.act.sec,x.act.num,.slice x.act.bA x.act.bn x.act.bc,.slice x.act.kA x.act.kn x.act.kc] 50)).drew):=qj (Ext.refl _)
 go_region_held3 (fun w'=>w'.cell? (aD w.heap.size 1)=some (.int .i64 x.ta)∧w'.cell? (aD w.heap.size 2)=some (.int .i64 x.tb)∧w'.cell? (aD w.heap.size 3)=some (.int .i64 x.tc)∧w'.cell? (aD w.heap.size 4)=some (.int .i64 x.td)∧w'.cell? (aD w.heap.size 5)=some (.int .i64 x.te)∧w'.cell? (aD w.heap.size 6)=some (.slice x.bA x.bn x.bc))
  (first | exact zkW (by assumption) rfl HB)
  (first
   | (go_at_call 46;((with_reducible refine (HWD.out _ HEX0.out).mono ?_);rintro e w1 ⟨rfl,hx⟩;have HK1:=qj hx;have HE1:Hid (Ext w w1):=qj (HEX.out.trans hx);clear hx))
   | (go_at_call 45;((with_reducible refine (HSL.out _ HE1.out).mono ?_);rintro e w2 ⟨A,c,rfl,hb,hx,ho⟩;have HK2:=qj (HK1.out.trans hx);have HE2:Hid (Ext w w2):=qj (HE1.out.trans hx);have HBL:=qj hb;have HOW:=qj ho;clear hx hb ho)))
 have HB2:Hid (w2.heap[w.heap.size]?=_):=qj ((HK2.out.block _ hlt).trans HB.out)
 have H2:=qj (H.out.ext HE2.out)
 have hsz1:=HE1.out.size
 have hsz2:w.heap.size<w2.heap.size:=(Array.getElem?_eq_some_iff.1 HB2.out).1
 clear HB HWD HSL hk1 HK1 HK2 HEX HEX0 hlt c0 c1 c2 c3 c4 c5 c6 c7 c8 c9 c10 c11
 by_cases h0:E=0
 ·have HACT:Hid (m.act6 x=m.puts S L W):=qj (by rw [HACT.out,if_pos h0])
  subst h0
  obtain ⟨hl,hw1⟩:=HLEN.out rfl
  obtain ⟨g,o,z,rfl,hg2,_⟩:=HBL.out.rd.at_ (k:=0) (by omega)
  have hg1:w1.heap.size≤g:=(HOW.out.lt g rfl).1
  have hoff:Off (fun i=>F i∨w2.heap.size≤i) (some ⟨g,o,none⟩):=fun p hp hh=>by
   injection hp with hp
   subst hp
   rcases hh with hh | hh
   ·exact absurd (H.out.disk.lt _ hh) (by show ¬g<_;omega)
   ·exact absurd hh (by show ¬_≤g;omega)
  have hGB:¬(fun i=>F i∨w2.heap.size≤i) w.heap.size:=fun hh=>hh.elim (fun h1=>absurd (H.out.disk.lt _ h1) (by omega)) (fun h1=>absurd h1 (by omega))
  have HOFF:=qj hoff
  have HGB:=qj hGB
  have hcap:=HBL.out.cap
  have hdiv:(64 * (W:Int)).tdiv 64=(W:Int):=by rw [Int.tdiv_eq_ediv_of_nonneg (by omega)];omega
  have hdiv2:(64 * (W:Int))/64=(W:Int):=by omega
  rw [hl] at HBL HOW hcap
  rw [hl]
  have HBL:=qj HBL.out
  clear hoff hGB HOW hl
  go_wp2_with fail
  go_loopw [6] (fun i wr=>∃(k:Nat) (F':Nat→Prop),k≤W∧i=.int .i64 k∧Hid (Left w0 w2 d F' (fun i=>F i∨w2.heap.size≤i) wr (m.puts S L k))) (fun i _=>W-(intOf i).toNat)
  case atStart=>exact ⟨0,F,Nat.zero_le _,rfl,qj ⟨H2.out,fun i hi=>.inl hi,Mod.refl _ _⟩⟩
  case round =>
   obtain ⟨k,F',hk,rfl,HLF⟩:=hrel
   by_cases hlt:k<W
   ·have hkk:64 * k+64≤64 * W:=by omega
    have hcut:∀V:World,(Instr.slice 45 (.slice (some ⟨g,o,none⟩) (64 * W) c) (some (.int .i64 (64 * (k:Int)))) (some (.int .i64 (64 * (k:Int)+64))) none).run Tryz.prog V=.ok (.slice (some ⟨g,o+64 * k,none⟩) 64 (c-64 * k)) V:=fun V=>by
     have:=zcX g o (64 * W) c (64 * k) (64 * k+64) (by omega) (by omega) (by omega) V
     rw [show 64 * k+64-64 * k=64 by omega] at this
     rw [show (64 * (k:Int))=((64 * k:Nat):Int) by omega,show (((64 * k:Nat):Int)+64)=((64 * k+64:Nat):Int) by omega]
     exact this
    have q1:IntKind.i64.wrap (64 * (k:Int))=64 * (k:Int):=IntWalk.i64_in _ (by omega)
    have q2:IntKind.i64.wrap (64 * (k:Int)+64)=64 * (k:Int)+64:=IntWalk.i64_in _ (by omega)
    have q3:IntKind.i64.wrap (S+(k:Int))=S+(k:Int):=IntWalk.i64_in _ (by omega)
    have HDa:=qj (HLF.out.ext (Ext.refl wr).drew)
    have HMa:=qj HDa.out.mod
    have HWa:=qj HDa.out.dk.bel
    have HFW:Hid ((m.puts S L k).waits.length≤1000000):=qj (by have:=zeT m S L k;omega)
    have hnext:m.puts S L (k+1)=((m.puts S L k).write (S+(k:Int)) ((L.drop (64 * k)).take 64)).2:=rfl
    have HNX:=qj hnext
    have HKK:=qj hkk
    clear hnext
    go_wp2_with fail
    go_region_held3 (fun w'=>w'.cell? (aD w.heap.size 2)=some (.int .i64 x.tb)∧w'.cell? (aD w.heap.size 3)=some (.int .i64 x.tc))
     (first | exact ziZ (by assumption) HGB HB2)
     (first
      | (go_at_call 48;((with_reducible refine (HS.out _ HWa.out).mono ?_);rintro e wv ⟨rfl,hx⟩;have HDb:=qj (HDa.out.ext hx);have HMb:=qj HDb.out.mod;clear hx))
      | (go_at_call 47;((with_reducible refine (zhS HDb.out.dk.disk (S+(k:Int)) (some ⟨g,o+64 * k,none⟩) 64 (c-64 * k) _ ((HBL.out.mod HMb.out HOFF.out).piece (64 * k) HKK.out) (zok HDb.out.le HOFF.out) HFW.out).mono ?_);unfold Outc;rintro e wz ⟨rfl,hp,hm⟩;have HDc:=qj (HDb.out.step (fun i hi=>.inr (Nat.le_trans HMb.out.size hi)) hp hm);have HMc:=qj HDc.out.mod;clear hp hm)))
    go_wp2_with fail
    go_roundw
    case rel=>exact ⟨k+1,_,by omega,by go_num,by rw [HNX.out];exact HDc⟩
    case measure=>simp [intOf];omega
   ·obtain rfl:k=W:=by omega
    go_wp2_with fail
    go_end0
    exact ⟨⟨_,rfl⟩,by rw [HACT.out];exact zoP H.out.disk.lt HE2.out HLF.out⟩
 ·have hne:(E == 0)=false:=by simpa using h0
  have HACT:Hid (m.act6 x=m):=qj (by rw [HACT.out,if_neg h0])
  clear HLEN h0
  go_wp2_with fail
  go_loopw [6] (fun i wr=>i=.int .i64 0∧wr=w2) (fun _ _=>0)
  case atStart=>exact ⟨rfl,rfl⟩
  case round =>
   obtain ⟨rfl,rfl⟩:=hrel
   go_wp2_with fail
   go_end0
   exact ⟨⟨_,rfl⟩,by rw [HACT.out];exact Step.of_ext H.out.disk HE2.out⟩
theorem znP {w0 w:World} {d:Nat} {p:Nat→Nat} {m:DM} (h:RD w d p m) (hbel:Ext w0 w) (hlow:∀i,p i≠0→w0.heap.size≤i) (hL:zbo w0) (x:Act6) (hx:x.Ok w0 w0.heap.size) (hs:x.sl=true) (hfew:m.waits.length≤1000) :
 Calls Tryz.prog 15 #[aD d 0,.agg x] w fun e w'=>(∃v,e=.returned v)∧ROut d p w (m.act6 x) w':=by
 have hB:=heap_alloc_new w (box6 x)
 have hE:=(Ext.refl w).alloc (box6 x)
 have hlt:w.heap.size<(w.alloc (box6 x)).heap.size:=by simp
 have HB:=qj hB
 have HE:=qj hE
 have H:=qj h
 have HL:=qj hL
 have HBY:Hid (By w x.bA x.bn x.bc x.bl):=qj ((hx.body.below hbel).more hbel.size)
 obtain ⟨c0,c1,c2,c3,c4,c5,c6,c7,c8,c9,c10,c11⟩:=zdI hB
 obtain ⟨W,hW⟩:∃W,zdJ x.ta x.tb x.tc x.td x.te=W:=⟨_,rfl⟩
 have hW2:=zhW x.ta x.tb x.tc x.td x.te
 rw [hW] at hW2
 obtain ⟨E,hEE⟩:∃E,x.sE=E:=⟨_,rfl⟩
 obtain ⟨L,hLL⟩:∃L,x.sL=L:=⟨_,rfl⟩
 obtain ⟨S,hS⟩:∃S,zai x.tb x.tc=S:=⟨_,rfl⟩
 have hSb:-1≤S∧S≤156:=by rw [←hS];exact zeI x.tb x.tc
 have HACT:Hid (m.act6 x=if E=0 then m.puts S L W else m):=qj (by unfold DM.act6;rw [if_pos hs,hEE,hS,hLL,hW])
 have hwd:∀V,Ext w0 V→Calls Tryz.prog 46 #[.agg #[x.ta,x.tb,x.tc,x.td,x.te]] V fun r w'=>r=.returned (.int .i64 (W:Nat))∧Ext V w':=fun V hV=>by
  have:=zjb x.ta x.tb x.tc x.td x.te V (hL.ext hV)
  rwa [hW] at this
 have hsl:∀V,Ext w V→Calls Tryz.prog 45 #[.agg #[x.ta,x.tb,x.tc,x.td,x.te],.slice x.bA x.bn x.bc,.int .i64 (W:Nat)] V fun r w'=>∃A' c',r=.returned (.tuple #[.slice A' L.length c',E])∧By w' A' L.length c' L∧Ext V w'∧w'.ownsRow V.heap.size 5 1 (.slice A' L.length c') L.length (vb L):=fun V hV=>by
  have:=zeD x.ta x.tb x.tc x.td x.te (W:Nat) x.bA x.bn x.bc x.bl V (HBY.out.ext hV)
  unfold Act6.sE Act6.sL at *
  rw [hW] at hEE hLL
  rwa [hEE,hLL] at this
 have hlen:E=0→L.length=64 * W∧1≤W:=fun h0=>by
  have hbl:x.bl.length=x.bn:=hx.body.len
  unfold Act6.sE at hEE
  unfold Act6.sL at hLL
  rw [hW] at hEE hLL
  rw [←hLL]
  have:=(zbd (a:=x.ta) (b:=x.tb) (c:=x.tc) (d:=x.td) (e:=x.te) (body:=x.bl) (s:=(W:Nat)) (by rw [hbl,hEE];exact h0))
  rw [this.1,Int.toNat_natCast]
  exact ⟨rfl,by omega⟩
 have hfst:∀V,Ext w0 V→Calls Tryz.prog 48 #[x.tb,x.tc] V fun r w'=>r=.returned S∧Ext V w':=fun V hV=>by
  have:=zeK x.tb x.tc V (hL.ext hV)
  rwa [hS] at this
 have HWD:=qj hwd
 have HSL:=qj hsl
 have HLEN:=qj hlen
 rw [hs] at c0 ⊢
 have hBX:box6 x=.cells #[.bool true,x.ta,x.tb,x.tc,x.td,x.te,.slice x.bA x.bn x.bc,x.act.kind,x.act.sec,x.act.num,.slice x.act.bA x.act.bn x.act.bc,.slice x.act.kA x.act.kn x.act.kc] 50:=by unfold box6;rw [hs]
 rw [hBX] at hE c0 c1 c2 c3 c4 c5 c6 c7 c8 c9 c10 c11
 have HEX:Hid (Ext w (w.alloc (.cells #[.bool true,x.ta,x.tb,x.tc,x.td,x.te,.slice x.bA x.bn x.bc,x.act.kind,x.act.sec,x.act.num,.slice x.act.bA x.act.bn x.act.bc,.slice x.act.kA x.act.kn x.act.kc] 50)).drew):=qj hE.drew
 have HS:=qj hfst
 have HEX0:=qj (hbel.trans HEX.out)
 have HBEL:=qj hbel
 have HLOW:=qj hlow
 rw [hBX] at HB hlt
 clear h hL hbel hlow hx hEE hLL hS hW hwd hsl hlen hfst HBY hB hE HE
 go_enter Tryz.func15,Tryz.ntmps15
 go_wp2_with fail
 have hk1:Hid (Ext (w.alloc (.cells #[.bool true,x.ta,x.tb,x.tc,x.td,x.te,.slice x.bA x.bn x.bc,x.act.kind,x.act.sec,x.act.num,.slice x.act.bA x.act.bn x.act.bc,.slice x.act.kA x.act.kn x.act.kc] 50)).drew (w.alloc (.cells #[.bool true,x.ta,x.tb,x.tc,x.td,x.te,.slice x.bA x.bn x.bc,x.act.kind,x.act.sec,x.act.num,.slice x.act.bA x.act.bn x.act.bc,.slice x.act.kA x.act.kn x.act.kc] 50)).drew):=qj (Ext.refl _)
 go_region_held3 (fun w'=>w'.cell? (aD w.heap.size 1)=some (.int .i64 x.ta)∧w'.cell? (aD w.heap.size 2)=some (.int .i64 x.tb)∧w'.cell? (aD w.heap.size 3)=some (.int .i64 x.tc)∧w'.cell? (aD w.heap.size 4)=some (.int .i64 x.td)∧w'.cell? (aD w.heap.size 5)=some (.int .i64 x.te)∧w'.cell? (aD w.heap.size 6)=some (.slice x.bA x.bn x.bc))
  (first | exact zkW (by assumption) rfl HB)
  (first
   | (go_at_call 46;((with_reducible refine (HWD.out _ HEX0.out).mono ?_);rintro e w1 ⟨rfl,hx⟩;have HK1:=qj hx;have HE1:Hid (Ext w w1):=qj (HEX.out.trans hx);clear hx))
   | (go_at_call 45;((with_reducible refine (HSL.out _ HE1.out).mono ?_);rintro e w2 ⟨A,c,rfl,hb,hx,ho⟩;have HK2:=qj (HK1.out.trans hx);have HE2:Hid (Ext w w2):=qj (HE1.out.trans hx);have HBL:=qj hb;have HOW:=qj ho;clear hx hb ho)))
 have HB2:Hid (w2.heap[w.heap.size]?=_):=qj ((HK2.out.block _ hlt).trans HB.out)
 have H2:=qj (H.out.ext HE2.out)
 have hsz1:=HE1.out.size
 have hsz2:w.heap.size<w2.heap.size:=(Array.getElem?_eq_some_iff.1 HB2.out).1
 clear HB HWD HSL hk1 HK1 HK2 HEX HEX0 hlt c0 c1 c2 c3 c4 c5 c6 c7 c8 c9 c10 c11
 by_cases h0:E=0
 ·have HACT:Hid (m.act6 x=m.puts S L W):=qj (by rw [HACT.out,if_pos h0])
  subst h0
  obtain ⟨hl,hw1⟩:=HLEN.out rfl
  obtain ⟨g,o,z,rfl,hg2,_⟩:=HBL.out.rd.at_ (k:=0) (by omega)
  have hg1:w1.heap.size≤g:=(HOW.out.lt g rfl).1
  have hoff:Off (fun i=>p i≠0∨w2.heap.size≤i) (some ⟨g,o,none⟩):=fun q hq hh=>by
   injection hq with hq
   subst hq
   rcases hh with hh | hh
   ·exact absurd (H.out.2 _ hh) (by show ¬g<_;omega)
   ·exact absurd hh (by show ¬_≤g;omega)
  have hGB:¬(fun i=>p i≠0∨w2.heap.size≤i) w.heap.size:=fun hh=>hh.elim (fun h1=>absurd (H.out.2 _ h1) (by omega)) (fun h1=>absurd h1 (by omega))
  have HOFF:=qj hoff
  have HGB:=qj hGB
  have hcap:=HBL.out.cap
  have hdiv:(64 * (W:Int)).tdiv 64=(W:Int):=by rw [Int.tdiv_eq_ediv_of_nonneg (by omega)];omega
  have hdiv2:(64 * (W:Int))/64=(W:Int):=by omega
  rw [hl] at HBL HOW hcap
  rw [hl]
  have HBL:=qj HBL.out
  clear hoff hGB HOW hl
  go_wp2_with fail
  go_loopw [6] (fun i wr=>∃(k:Nat) (p':Nat→Nat),k≤W∧i=.int .i64 k∧Hid (RLeft w2 d p p' wr (m.puts S L k))) (fun i _=>W-(intOf i).toNat)
  case atStart=>exact ⟨0,p,Nat.zero_le _,rfl,qj ⟨H2.out,fun i hi=>.inl hi,Mod.refl _ _⟩⟩
  case round =>
   obtain ⟨k,p',hk,rfl,HLF⟩:=hrel
   by_cases hlt:k<W
   ·have hkk:64 * k+64≤64 * W:=by omega
    have hcut:∀V:World,(Instr.slice 45 (.slice (some ⟨g,o,none⟩) (64 * W) c) (some (.int .i64 (64 * (k:Int)))) (some (.int .i64 (64 * (k:Int)+64))) none).run Tryz.prog V=.ok (.slice (some ⟨g,o+64 * k,none⟩) 64 (c-64 * k)) V:=fun V=>by
     have:=zcX g o (64 * W) c (64 * k) (64 * k+64) (by omega) (by omega) (by omega) V
     rw [show 64 * k+64-64 * k=64 by omega] at this
     rw [show (64 * (k:Int))=((64 * k:Nat):Int) by omega,show (((64 * k:Nat):Int)+64)=((64 * k+64:Nat):Int) by omega]
     exact this
    have q1:IntKind.i64.wrap (64 * (k:Int))=64 * (k:Int):=IntWalk.i64_in _ (by omega)
    have q2:IntKind.i64.wrap (64 * (k:Int)+64)=64 * (k:Int)+64:=IntWalk.i64_in _ (by omega)
    have q3:IntKind.i64.wrap (S+(k:Int))=S+(k:Int):=IntWalk.i64_in _ (by omega)
    have HDa:=qj (HLF.out.ext (Ext.refl wr).drew)
    have HMa:=qj HDa.out.mod
    have HWa:=qj (HDa.out.bel (HBEL.out.trans HE2.out) HLOW.out)
    have HFW:Hid ((m.puts S L k).waits.length≤1000000):=qj (by have:=zeT m S L k;omega)
    have hnext:m.puts S L (k+1)=((m.puts S L k).write (S+(k:Int)) ((L.drop (64 * k)).take 64)).2:=rfl
    have HNX:=qj hnext
    have HKK:=qj hkk
    clear hnext
    go_wp2_with fail
    go_region_held3 (fun w'=>w'.cell? (aD w.heap.size 2)=some (.int .i64 x.tb)∧w'.cell? (aD w.heap.size 3)=some (.int .i64 x.tc))
     (first | exact ziZ (by assumption) HGB HB2)
     (first
      | (go_at_call 48;((with_reducible refine (HS.out _ HWa.out).mono ?_);rintro e wv ⟨rfl,hx⟩;have HDb:=qj (HDa.out.ext hx);have HMb:=qj HDb.out.mod;clear hx))
      | (go_at_call 50;((with_reducible refine (zeR HDb.out.rd (S+(k:Int)) (some ⟨g,o+64 * k,none⟩) 64 (c-64 * k) _ ((HBL.out.mod HMb.out HOFF.out).piece (64 * k) HKK.out) (zms HDb.out.le HOFF.out) HFW.out).mono ?_);rintro e wz ⟨rfl,ho⟩;obtain ⟨p2,hl2⟩:=HDb.out.step ho;have HDc:=qj hl2;have HMc:=qj HDc.out.mod;clear ho hl2)))
    go_wp2_with fail
    go_roundw
    case rel=>exact ⟨k+1,_,by omega,by go_num,by rw [HNX.out];exact HDc⟩
    case measure=>simp [intOf];omega
   ·obtain rfl:k=W:=by omega
    go_wp2_with fail
    go_end0
    exact ⟨⟨_,rfl⟩,by rw [HACT.out];exact RLeft.out HE2.out HLF.out⟩
 ·have hne:(E == 0)=false:=by simpa using h0
  have HACT:Hid (m.act6 x=m):=qj (by rw [HACT.out,if_neg h0])
  clear HLEN h0
  go_wp2_with fail
  go_loopw [6] (fun i wr=>i=.int .i64 0∧wr=w2) (fun _ _=>0)
  case atStart=>exact ⟨rfl,rfl⟩
  case round =>
   obtain ⟨rfl,rfl⟩:=hrel
   go_wp2_with fail
   go_end0
   exact ⟨⟨_,rfl⟩,by rw [HACT.out];exact RLeft.out HE2.out ⟨H2.out,fun i hi=>.inl hi,Mod.refl _ _⟩⟩
theorem Both.of_step {w0 w w':World} {d r:Nat} {F:Nat→Prop} {p:Nat→Nat} {m m' m2:DM} (h:Both w0 w d r F p m m') (k:Step d F w m2 w'):Both w0 w' d r (grow F w w') p m2 m' :=
 ⟨h.dk.step k.1 k.2,h.rd.mod k.2 h.apart,h.low,fun i hi hg=>hg.elim (h.apart i hi) (fun hh=>by have:=h.rd.2 i hi;omega)⟩
theorem zny {w:World} {d:Nat} {p:Nat→Nat} {m:DM} (h:RD w d p m):1≤m.size∧m.size≤1024∧m.Ok:=by
 obtain ⟨⟨q,hq⟩,_⟩:=h
 exact ⟨hq.head.n1.1,hq.head.n1.2,hq.ok⟩
theorem zcq {w:World} {d:Nat} {p:Nat→Nat} {m:DM} (h:RD w d p m):∃g c,w.cell? (aD d 0)=some (.slice (some ⟨g,0,none⟩) m.size c)∧w.cell? (aD d 4)=some (.bool m.down)∧w.cell? (aD d 5)=some (.bool m.dead):=by
 obtain ⟨⟨q,hq⟩,_⟩:=h
 obtain ⟨⟨d0,_,_,_,d4,d5,_⟩,_⟩:=hq.head.cells
 exact ⟨_,_,d0,d4,d5⟩

structure RQ (w w':World) (d:Nat) (p p':Nat→Nat) (m:DM):Prop where
 rd:RD w' d p' m
 mod:Mod (fun k=>p k≠0) w w'
 sub:∀k,p' k≠0→p k≠0∨w.heap.size≤k
section
variable {w w1 w2:World} {d:Nat} {p p1:Nat→Nat} {m m2:DM}
theorem RQ.start (h:RD w d p m):RQ w w d p p m:=⟨h,Mod.refl _ _,fun _ h=>.inl h⟩
theorem RQ.ext (h:RQ w w1 d p p1 m) (hx:Ext w1 w2):RQ w w2 d p p1 m:=⟨h.rd.ext hx,h.mod.ext hx,h.sub⟩
theorem RQ.rout (h:RQ w w1 d p p1 m):ROut d p w m w1:=⟨p1,h.rd,h.mod,h.sub⟩
theorem RQ.out (h:RQ w w1 d p p1 m) (k:ROut d p1 w1 m2 w2):∃p2,RQ w w2 d p p2 m2∧(∀k,p2 k≠0→p1 k≠0∨w1.heap.size≤k)∧Mod (fun k=>p1 k≠0) w1 w2:=by
 obtain ⟨p2,h1,h2,h3⟩:=k
 refine ⟨p2,⟨h1,h.mod.trans h2 (fun i hi=>h.sub i hi),fun i hi=>?_⟩,h3,h2⟩
 rcases h3 i hi with e | e
 ·exact h.sub i e
 ·exact .inr (Nat.le_trans h.mod.size e)
theorem zcC {p1 p2:Nat→Nat} {w1:World} {g:Nat} (h:∀k,p2 k≠0→p1 k≠0∨w1.heap.size≤k) (h0:p1 g=0) (hlt:g<w1.heap.size):p2 g=0:=by
 rcases Nat.eq_zero_or_pos (p2 g) with e | e
 ·exact e
 ·rcases h g (by omega) with h1 | h1 <;> omega
theorem zdk {g:Nat} (h:RD w d p m) (hg:w.heap.size≤g):p g=0:=by
 rcases Nat.eq_zero_or_pos (p g) with e | e
 ·exact e
 ·have:=h.2 g (by omega);omega
end
theorem zqA {w0 w:World} {d:Nat} {F:Nat→Prop} {m m2:DM} (h:DK w0 w d F m) (a:Act5) (ha:a.Ok w0 w0.heap.size) (hn:a.bn≤200) (hfew:m.waits.length≤1000) {E:Int} (hact:m.act a.kind a.sec a.num a.bl a.kl=(E,m2)) :
 Calls Tryz.prog 44 #[aD d 0,.agg #[a.kind,a.sec,a.num,.slice a.bA a.bn a.bc,.slice a.kA a.kn a.kc]] w fun e w'=>e=.returned E∧Step d F w m2 w':=by
 have hd:=zuV h.disk a ((ha.below h.bel).more h.bel.size) (h.vs ha.keep) (by omega) (by omega)
 unfold actV at hd
 rw [hact] at hd
 exact hd.mono fun e w' ⟨h1,h2,h3⟩=>⟨h1,h2,h3⟩
theorem zkC {w0 w:World} {d:Nat} {F:Nat→Prop} {m:DM} (h:DK w0 w d F m) (x:Act6) (hx:x.Ok w0 w0.heap.size) (hs:x.sl=false) (hn:x.act.bn≤200) (hfew:m.waits.length≤1000) :
 Calls Tryz.prog 14 #[aD d 0,.agg x] w fun e w'=>(∃v,e=.returned v)∧Step d F w (m.act6 x) w':=by
 have hE:=(Ext.refl w).alloc (box6 x)
 have hB:=heap_alloc_new w (box6 x)
 obtain ⟨E,mz,hq⟩:∃E mz,m.act x.act.kind x.act.sec x.act.num x.act.bl x.act.kl=(E,mz):=⟨(m.act x.act.kind x.act.sec x.act.num x.act.bl x.act.kl).1,(m.act x.act.kind x.act.sec x.act.num x.act.bl x.act.kl).2,rfl⟩
 have hd:=zqA (h.ext hE) x.act hx.act hn hfew hq
 have HACT:Hid (m.act6 x=mz):=qj (by unfold DM.act6;rw [if_neg (by rw [hs];simp),hq])
 obtain ⟨c0,_,_,_,_,_,_,c7,c8,c9,c10,c11⟩:=zdI hB
 rw [hs] at c0 ⊢
 have hBX:box6 x=.cells #[.bool false,x.ta,x.tb,x.tc,x.td,x.te,.slice x.bA x.bn x.bc,x.act.kind,x.act.sec,x.act.num,.slice x.act.bA x.act.bn x.act.bc,.slice x.act.kA x.act.kn x.act.kc] 50:=by unfold box6;rw [hs]
 rw [hBX] at c0 c7 c8 c9 c10 c11 hd hE
 have HD:=qj hd
 have HE:=qj hE
 clear hq
 clear h hx hd hE hB hBX
 go_enter Tryz.func14,Tryz.ntmps14
 go_wp2_with fail
 refine HD.out.mono ?_
 rintro e w1 ⟨rfl,hk⟩
 have HK:=qj (Step.pre HE.out hk)
 clear hk
 go_wp2_with fail
 refine bodyPost_ret (results_none rfl _ _ _) rfl ?_
 exact ⟨⟨_,rfl⟩,by rw [HACT.out];exact HK.out⟩
theorem ztu {w0 w:World} {d:Nat} {F:Nat→Prop} {m:DM} (h:DK w0 w d F m) (hL:zbo w0) (x:Act6) (hx:x.Ok w0 w0.heap.size) (hn:x.act.bn≤200) (hfew:m.waits.length≤1000) :
 Calls Tryz.prog 14 #[aD d 0,.agg x] w fun e w'=>(∃v,e=.returned v)∧Step d F w (m.act6 x) w':=by
 by_cases hs:x.sl=true
 ·exact zrB h hL x hx hs hfew
 ·exact zkC h x hx (by simpa using hs) hn hfew
section
variable {w w':World} {F:Nat→Prop} {g d:Nat} {o:Obj} {m:DM}
end
theorem zpv {w0 w:World} {d:Nat} {p:Nat→Nat} {m m2:DM} (h:RD w d p m) (hbel:Ext w0 w) (hlow:∀i,p i≠0→w0.heap.size≤i) (a:Act5) (ha:a.Ok w0 w0.heap.size) (hn:a.bn≤200) (hfew:m.waits.length≤1000) {E:Int} (hact:m.act a.kind a.sec a.num a.bl a.kl=(E,m2)) :
 Calls Tryz.prog 49 #[aD d 0,.agg #[a.kind,a.sec,a.num,.slice a.bA a.bn a.bc,.slice a.kA a.kn a.kc]] w fun e w'=>e=.returned E∧ROut d p w m2 w':=by
 have hk:0<a.kn→Off (fun i=>p i≠0) a.kA:=fun hn q hq hf=>by
  obtain ⟨g,o,e,hg,_⟩:=ha.keep.rd hn
  rw [e] at hq
  injection hq with hq
  subst hq
  have h1:=hlow _ hf
  have hg':g<w0.heap.size:=hg
  have h2:w0.heap.size≤g:=h1
  omega
 have hd:=zqT h a ((ha.below hbel).more hbel.size) hk hn (by omega)
 rw [hact] at hd
 exact hd
theorem zjU {w0 w:World} {d:Nat} {p:Nat→Nat} {m:DM} (h:RD w d p m) (hbel:Ext w0 w) (hlow:∀i,p i≠0→w0.heap.size≤i) (x:Act6) (hx:x.Ok w0 w0.heap.size) (hs:x.sl=false) (hn:x.act.bn≤200) (hfew:m.waits.length≤1000) :
 Calls Tryz.prog 15 #[aD d 0,.agg x] w fun e w'=>(∃v,e=.returned v)∧ROut d p w (m.act6 x) w':=by
 have hE:=(Ext.refl w).alloc (box6 x)
 have hB:=heap_alloc_new w (box6 x)
 obtain ⟨E,mz,hq⟩:∃E mz,m.act x.act.kind x.act.sec x.act.num x.act.bl x.act.kl=(E,mz):=⟨(m.act x.act.kind x.act.sec x.act.num x.act.bl x.act.kl).1,(m.act x.act.kind x.act.sec x.act.num x.act.bl x.act.kl).2,rfl⟩
 have hd:=zpv (h.ext hE) (hbel.trans hE) hlow x.act hx.act hn hfew hq
 have HACT:Hid (m.act6 x=mz):=qj (by unfold DM.act6;rw [if_neg (by rw [hs];simp),hq])
 obtain ⟨c0,_,_,_,_,_,_,c7,c8,c9,c10,c11⟩:=zdI hB
 rw [hs] at c0 ⊢
 have hBX:box6 x=.cells #[.bool false,x.ta,x.tb,x.tc,x.td,x.te,.slice x.bA x.bn x.bc,x.act.kind,x.act.sec,x.act.num,.slice x.act.bA x.act.bn x.act.bc,.slice x.act.kA x.act.kn x.act.kc] 50:=by unfold box6;rw [hs]
 rw [hBX] at c0 c7 c8 c9 c10 c11 hd hE
 have HD:=qj hd
 have HE:=qj hE
 clear hq
 clear h hx hd hE hB hBX hbel hlow
 go_enter Tryz.func15,Tryz.ntmps15
 go_wp2_with fail
 refine HD.out.mono ?_
 rintro e w1 ⟨rfl,hk⟩
 have HK:=qj (hk.from HE.out)
 clear hk
 go_wp2_with fail
 refine bodyPost_ret (results_none rfl _ _ _) rfl ?_
 exact ⟨⟨_,rfl⟩,by rw [HACT.out];exact HK.out⟩
theorem zoZ {w0 w:World} {d:Nat} {p:Nat→Nat} {m:DM} (h:RD w d p m) (hbel:Ext w0 w) (hlow:∀i,p i≠0→w0.heap.size≤i) (hL:zbo w0) (x:Act6) (hx:x.Ok w0 w0.heap.size) (hn:x.act.bn≤200) (hfew:m.waits.length≤1000) :
 Calls Tryz.prog 15 #[aD d 0,.agg x] w fun e w'=>(∃v,e=.returned v)∧ROut d p w (m.act6 x) w':=by
 by_cases hs:x.sl=true
 ·exact znP h hbel hlow hL x hx hs hfew
 ·exact zjU h hbel hlow x hx (by simpa using hs) hn hfew
section
variable {w0 w w':World} {F:Nat→Prop} {p:Nat→Nat} {g d r:Nat} {o:Obj} {m m' m2:DM}
theorem Both.own {G:Nat→Prop} (h:Both w0 w d r F p m m') (k:Mod G w w') (hF:∀i,F i→¬G i) (hp:∀i,p i≠0→¬G i) (hl:∀i,G i→w0.heap.size≤i):Both w0 w' d r F p m m' :=
 ⟨h.dk.mod k hF hl,h.rd.mod k hp,h.low,h.apart⟩
end
def NB (F:Nat→Prop) (p:Nat→Nat) (g y b:Nat):Prop:=¬F b∧p b=0∧b≠g∧b≠y
def KpS (w w':World) (F:Nat→Prop) (p:Nat→Nat) (g y:Nat) (F':Nat→Prop) (p':Nat→Nat) (g' y':Nat):Prop :=
 w.heap.size≤w'.heap.size∧∀b,b<w.heap.size→NB F p g y b→NB F' p' g' y' b∧w'.heap[b]?=w.heap[b]?
theorem KpS.ext {w w':World} {F:Nat→Prop} {p:Nat→Nat} {g y:Nat} (hx:Ext w w'):KpS w w' F p g y F p g y:=⟨hx.size,fun b hb hn=>⟨hn,hx.block b hb⟩⟩
theorem KpS.row {w w':World} {F F':Nat→Prop} {p p':Nat→Nat} {g y g' y' b:Nat} {o:Obj} (h:KpS w w' F p g y F' p' g' y') (hr:w.heap[b]?=some o) (hn:NB F p g y b):w'.heap[b]?=some o∧NB F' p' g' y' b:=by
 obtain ⟨h1,h2⟩:=h.2 b (Array.getElem?_eq_some_iff.1 hr).1 hn
 exact ⟨h2.trans hr,h1⟩
theorem zaM {w:World} {g:Nat} {x y:Int} {t:TypeId} (h:w.heap[g]?=some (.cells #[x,y] t (0,0))):w.cell? (aD g 0)=some (.int .i64 x)∧w.cell? (aD g 1)=some (.int .i64 y):=⟨cell_of_row w g 0 _ _ _ h,cell_of_row w g 1 _ _ _ h⟩
theorem zaa {u w':World} {g:Nat} {ob:Obj} (k:Ext u w') (h:u.heap[g]?=some ob):w'.heap[g]?=some ob:=(k.block g (Array.getElem?_eq_some_iff.1 h).1).trans h
theorem zea {w:World} {cs:Array Value} {t:TypeId} {g i:Nat} {v:Value} (hg:g=w.heap.size) (hv:cs[i]?=some v):(w.alloc (.cells cs t)).cell? (aD g i)=some v:=by
 subst hg
 exact cell_of_row _ _ i _ _ _ (heap_alloc_new w _) |>.trans hv
theorem zaq {w w':World} {g i:Nat} {v:Value} (h:Ext w w') (hc:w.cell? (aD g i)=some v):w'.cell? (aD g i)=some v:=(Below.cell h (p:=⟨g,i,none⟩) (World.block_lt_of_cell? w _ hc)).trans hc
def balI (x y a b:Int):Int:=orI (cmpI x a) (cmpI y b)
theorem zfp {x y a b:Int}:0<balI x y a b↔gtL x y a b:=by
 unfold balI orI gtL
 rcases zcJ x a with ⟨h,k⟩ | ⟨h,k⟩ | ⟨h,k⟩ <;> rcases zcJ y b with ⟨h2,k2⟩ | ⟨h2,k2⟩ | ⟨h2,k2⟩ <;> rw [h,h2] <;> simp <;> omega
theorem zsr {x y a b:Int}:0≤balI x y a b↔¬gtL a b x y:=by
 unfold balI orI gtL
 rcases zcJ x a with ⟨h,k⟩ | ⟨h,k⟩ | ⟨h,k⟩ <;> rcases zcJ y b with ⟨h2,k2⟩ | ⟨h2,k2⟩ | ⟨h2,k2⟩ <;> rw [h,h2] <;> simp <;> omega
theorem zmc (x y a b:Int) (w:World):(cL 163 #[.agg #[x,y],.agg #[a,b]] w (.int .i64 (balI x y a b)):Prop):=by
 have hE:=((Ext.refl w).alloc (.cells #[x,y] 38)).alloc (.cells #[a,b] 38)
 have hT:((w.alloc (.cells #[x,y] 38)).alloc (.cells #[a,b] 38)).heap[w.heap.size]?=some (.cells #[x,y] 38 (0,0)):=zaa ((Ext.refl _).alloc _) (heap_alloc_new w _)
 have hU:((w.alloc (.cells #[x,y] 38)).alloc (.cells #[a,b] 38)).heap[w.heap.size+1]?=some (.cells #[a,b] 38 (0,0)):=by
  rw [show w.heap.size+1=(w.alloc (.cells #[x,y] 38)).heap.size from by simp]
  exact heap_alloc_new _ _
 have HT:=qj hT
 have HU:=qj hU
 have HE:=qj hE
 obtain ⟨i0,i1⟩:=zaM hT
 obtain ⟨j0,j1⟩:=zaM hU
 clear hT hU hE
 go_enter Tryz.func163,Tryz.ntmps163
 go_wp2_with fail
 go_region_held3 (fun w'=>w'.cell? (aD w.heap.size 0)=some (.int .i64 x)∧w'.cell? (aD w.heap.size 1)=some (.int .i64 y)∧w'.cell? (aD (w.heap.size+1) 0)=some (.int .i64 a)∧w'.cell? (aD (w.heap.size+1) 1)=some (.int .i64 b))
  (first | with_reducible exact ⟨i0,i1,j0,j1⟩ | (refine (fun k=>⟨(zaM (zaa k HT.out)).1,(zaM (zaa k HT.out)).2,(zaM (zaa k HU.out)).1,(zaM (zaa k HU.out)).2⟩) ?_;repeat (first | exact Ext.refl _ | refine Ext.drew ?_ | refine Ext.alloc ?_ _)))
  (first
   | (go_at_call 185;((with_reducible refine (zmE _ _ _).mono ?_);rintro e w1 ⟨rfl,rfl⟩))
   | (go_at_call 184;((refine (zuZ _ _ (cmpI x a) (cmpI y b) _ ?_ ?_).mono ?_);(first | exact zea (by simp) rfl | (show (World.drew _).cell? _=_;exact zea (by simp) rfl));(first | exact zea (by simp) rfl | (show (World.drew _).cell? _=_;exact zea (by simp) rfl));rintro e w1 ⟨rfl,rfl⟩)))
 all_goals
  clear i0 i1 j0 j1
  go_wp2_with fail
  go_ret
  exact ⟨rfl,by repeat (first | exact HE.out | refine Ext.drew ?_ | refine Ext.alloc ?_ _)⟩
theorem zcg (c:CopL) (g:Nat) (i:Int) (w:World) (hg:w.cell? (aD g 0)=some (.int .i64 i)) :
 (cL 157 #[.agg c,aD g 0] w (.bool ((c.st:Int) == 1 && c.ix == i)):Prop):=by
 have hE:=(Ext.refl w).alloc (.cells c 92)
 have hg2:=zaq ((Ext.refl w).alloc (.cells c 92)) hg
 have HE:=qj hE
 have HF:=qj zcL
 clear hE hg
 go_enter Tryz.func157,Tryz.ntmps157
 go_wp2_with fail
 refine (HF.out _ _ _ _).mono ?_
 rintro e w1 ⟨rfl,rfl⟩
 go_wp2_with fail
 go_ret
 exact ⟨rfl,HE.out⟩
theorem zaR (c:CopL) (w:World) :
 (cL 160 #[.agg c] w (.bool ((c.st:Int) != 0 && (c.st:Int) != 1)):Prop):=by
 have hE:=(Ext.refl w).alloc (.cells c 92)
 have HE:=qj hE
 have HF:=qj zcf
 clear hE
 go_enter Tryz.func160,Tryz.ntmps160
 go_wp2_with fail
 refine (HF.out _ _).mono ?_
 rintro e w1 ⟨rfl,rfl⟩
 go_wp2_with fail
 go_ret
 exact ⟨rfl,HE.out⟩
theorem ziJ (c:CopL) (w:World) :
 (cL 165 #[.agg c] w (.bool false):Prop):=by
 have hE:=(Ext.refl w).alloc (.cells c 92)
 have HE:=qj hE
 clear hE
 go_enter Tryz.func165,Tryz.ntmps165
 go_wp2_with fail
 go_ret
 exact ⟨rfl,HE.out⟩
theorem zlF (c:CopL) (g:Nat) (i:Int) (w:World) (hg:w.cell? (aD g 0)=some (.int .i64 i)) :
 (cL 186 #[.agg c,aD g 0] w (.bool ((c.st:Int) == 1 && decide (i<c.ix))):Prop):=by
 have hE:=(Ext.refl w).alloc (.cells c 92)
 have hg2:=zaq ((Ext.refl w).alloc (.cells c 92)) hg
 have HE:=qj hE
 clear hE hg
 obtain ⟨b,hb⟩:∃b,((c.st:Int) == 1)=b:=⟨_,rfl⟩
 obtain ⟨d,hd⟩:∃d,decide (i<c.ix)=d:=⟨_,rfl⟩
 rw [hb,hd]
 cases b <;>
 ·go_enter Tryz.func186,Tryz.ntmps186
  go_wp2_with fail
  go_ret
  exact ⟨rfl,HE.out⟩
theorem zkc (c:CopL) (p:Rec) (g5 g7 g3:Nat) (i:Int) (w:World) (h5:w.cell? (aD g5 0)=some (.int .i64 i)) (h7:w.cell? (aD g7 0)=some (.func (.func 157) #[] #[aD g5 0]))
 (hx:w.cell? (aD g3 2)=some (.int .i64 p.bx)) (hy:w.cell? (aD g3 3)=some (.int .i64 p.yb)) :
 (cL 162 #[.agg c,aD g7 0,aD g3 0] w (.bool (((c.st:Int) == 1 && c.ix == i) && decide (0≤balI c.bx c.yb p.bx p.yb))):Prop):=by
 have hE:=(Ext.refl w).alloc (.cells c 92)
 have HE:=qj hE
 have HI:=qj (zcg c g5 i _ (zaq ((Ext.refl w).alloc (.cells c 92)) h5))
 have HB:=qj (zmc c.bx c.yb p.bx p.yb)
 have k7:=zaq ((Ext.refl w).alloc (.cells c 92)) h7
 have kx:=zaq ((Ext.refl w).alloc (.cells c 92)) hx
 have ky:=zaq ((Ext.refl w).alloc (.cells c 92)) hy
 have hT:=heap_alloc_new w (.cells c 92)
 have c2:=cell_of_row _ _ 2 _ _ _ hT
 have c3:=cell_of_row _ _ 3 _ _ _ hT
 have KX:=qj kx
 have KY:=qj ky
 have C2:=qj c2
 have C3:=qj c3
 clear hE h5 h7 hx hy hT c2 c3 kx ky
 obtain ⟨b,hb⟩:∃b,((c.st:Int) == 1 && c.ix == i)=b:=⟨_,rfl⟩
 obtain ⟨z,hz⟩:∃z,balI c.bx c.yb p.bx p.yb=z:=⟨_,rfl⟩
 rw [hb] at HI ⊢
 rw [hz] at HB ⊢
 clear hb hz
 cases b with
 | false =>
  go_enter Tryz.func162,Tryz.ntmps162
  go_wp2_with fail
  refine HI.out.mono ?_
  rintro e w1 ⟨rfl,hx⟩
  have HX:=qj (HE.out.trans hx)
  clear hx
  go_wp2_with fail
  go_ret
  exact ⟨rfl,HX.out⟩
 | true =>
  go_enter Tryz.func162,Tryz.ntmps162
  go_wp2_with fail
  refine HI.out.mono ?_
  rintro e w1 ⟨rfl,hx⟩
  have HX:=qj (HE.out.trans hx)
  have kx:=zaq hx KX.out
  have ky:=zaq hx KY.out
  have k2:=zaq hx C2.out
  have k3:=zaq hx C3.out
  clear hx
  go_wp2_with fail
  refine (HB.out _).mono ?_
  rintro e w2 ⟨rfl,hx⟩
  have HX:=qj (HX.out.trans hx)
  clear hx kx ky k2 k3
  go_wp2_with fail
  go_ret
  exact ⟨rfl,HX.out⟩
def TwoL (w:World) (g:Nat) (f0 f1:CopL):Prop:=w.heap[g]?=some (.cells #[.int .u8 (f0.st:Int),.int .i64 f0.ix,.int .i64 f0.bx,.int .i64 f0.yb,.int .u8 (f0.e.k:Int),.int .i64 f0.e.cl,.int .i64 f0.e.sq,.int .u8 (f0.e.ok:Int),.string f0.e.key,.string f0.e.old,.string f0.e.val,.int .u8 (f1.st:Int),.int .i64 f1.ix,.int .i64 f1.bx,.int .i64 f1.yb,.int .u8 (f1.e.k:Int),.int .i64 f1.e.cl,.int .i64 f1.e.sq,.int .u8 (f1.e.ok:Int),.string f1.e.key,.string f1.e.old,.string f1.e.val] 93 (0,0))
theorem TwoL.ext {w w':World} {g:Nat} {f0 f1:CopL} (h:TwoL w g f0 f1) (k:Ext w w'):TwoL w' g f0 f1:=zaa k h
theorem TwoL.first {w:World} {g:Nat} {f0 f1:CopL} (h:TwoL w g f0 f1):(CW.mk w g f0:Prop) :=
 ⟨cell_of_row w g 0 _ _ _ h,cell_of_row w g 1 _ _ _ h,cell_of_row w g 2 _ _ _ h,cell_of_row w g 3 _ _ _ h,cell_of_row w g 4 _ _ _ h,cell_of_row w g 5 _ _ _ h,cell_of_row w g 6 _ _ _ h,cell_of_row w g 7 _ _ _ h,cell_of_row w g 8 _ _ _ h,cell_of_row w g 9 _ _ _ h,cell_of_row w g 10 _ _ _ h⟩
theorem TwoL.second {w:World} {g:Nat} {f0 f1:CopL} (h:TwoL w g f0 f1):w.cell? (aD g 11)=some (.int .u8 (f1.st:Int))∧w.cell? (aD g 12)=some (.int .i64 f1.ix)∧w.cell? (aD g 13)=some (.int .i64 f1.bx)∧w.cell? (aD g 14)=some (.int .i64 f1.yb)∧w.cell? (aD g 15)=some (.int .u8 (f1.e.k:Int))∧w.cell? (aD g 16)=some (.int .i64 f1.e.cl)∧w.cell? (aD g 17)=some (.int .i64 f1.e.sq)∧w.cell? (aD g 18)=some (.int .u8 (f1.e.ok:Int))∧w.cell? (aD g 19)=some (.string f1.e.key)∧w.cell? (aD g 20)=some (.string f1.e.old)∧w.cell? (aD g 21)=some (.string f1.e.val) :=
 ⟨cell_of_row w g 11 _ _ _ h,cell_of_row w g 12 _ _ _ h,cell_of_row w g 13 _ _ _ h,cell_of_row w g 14 _ _ _ h,cell_of_row w g 15 _ _ _ h,cell_of_row w g 16 _ _ _ h,cell_of_row w g 17 _ _ _ h,cell_of_row w g 18 _ _ _ h,cell_of_row w g 19 _ _ _ h,cell_of_row w g 20 _ _ _ h,cell_of_row w g 21 _ _ _ h⟩
theorem TwoL.new (w:World) (f0 f1:CopL):TwoL (w.alloc (.cells (f0,f1) 93)) w.heap.size f0 f1:=heap_alloc_new w _
def Asks (w:World) (F:Nat) (caps:Array Value) (f:CopL) (b:Bool):Prop:=∀W,Ext w W→Calls Tryz.prog F (#[.agg #[.int .u8 (f.st:Int),.int .i64 f.ix,.int .i64 f.bx,.int .i64 f.yb,.int .u8 (f.e.k:Int),.int .i64 f.e.cl,.int .i64 f.e.sq,.int .u8 (f.e.ok:Int),.string f.e.key,.string f.e.old,.string f.e.val]]++caps) W fun e W'=>e=.returned (.bool b)∧Ext W W'
theorem Asks.ext {w w':World} {F:Nat} {caps:Array Value} {f:CopL} {b:Bool} (h:Asks w F caps f b) (k:Ext w w'):Asks w' F caps f b:=fun W hx=>h W (k.trans hx)
def firstI (a b:Bool):Int:=if a then 0 else if b then 1 else -1
theorem zqQ (F:Nat) (caps:Array Value) (f0 f1:CopL) (b0 b1:Bool) (g c:Nat) (w:World) (hgo:Enters Tryz.prog F) (hT:TwoL w g f0 f1) (h0:Asks w F caps f0 b0) (h1:Asks w F caps f1 b1) :
 (cL 183 #[.slice (some ⟨g,0,none⟩) 2 c,.func (.func F) #[] caps] w (.int .i64 (firstI b0 b1)):Prop):=by
 have HT:=qj hT
 have H0:=qj h0
 have H1:=qj h1
 obtain ⟨i0,i1,i2,i3,i4,i5,i6,i7,i8,i9,i10⟩:=hT.first
 clear hT h0 h1
 unfold Enters at hgo
 cases b0 with
 | true =>
  go_enter Tryz.func183,Tryz.ntmps183
  go_wp2_with fail
  refine wp_loop_rounds 3 ?_
  rw [rounds_succ]
  go_wp2_with fail
  refine (H0.out _ (Ext.refl _)).mono ?_
  rintro e w1 ⟨rfl,hx⟩
  have HX:=qj hx
  clear hx i0 i1 i2 i3 i4 i5 i6 i7 i8 i9 i10
  go_wp2_with fail
  go_ret
  exact ⟨rfl,HX.out⟩
 | false =>
  cases b1 with
  | true =>
   go_enter Tryz.func183,Tryz.ntmps183
   go_wp2_with fail
   refine wp_loop_rounds 3 ?_
   rw [rounds_succ]
   go_wp2_with fail
   refine (H0.out _ (Ext.refl _)).mono ?_
   rintro e w1 ⟨rfl,hx⟩
   have HX:=qj hx
   clear i0 i1 i2 i3 i4 i5 i6 i7 i8 i9 i10
   obtain ⟨j0,j1,j2,j3,j4,j5,j6,j7,j8,j9,j10⟩:=(HT.out.ext hx).second
   clear hx
   go_wp2_with fail
   rw [rounds_succ]
   go_wp2_with fail
   refine (H1.out _ HX.out).mono ?_
   rintro e w2 ⟨rfl,hx⟩
   have HX:=qj (HX.out.trans hx)
   clear hx j0 j1 j2 j3 j4 j5 j6 j7 j8 j9 j10
   go_wp2_with fail
   go_ret
   exact ⟨rfl,HX.out⟩
  | false =>
   go_enter Tryz.func183,Tryz.ntmps183
   go_wp2_with fail
   refine wp_loop_rounds 3 ?_
   rw [rounds_succ]
   go_wp2_with fail
   refine (H0.out _ (Ext.refl _)).mono ?_
   rintro e w1 ⟨rfl,hx⟩
   have HX:=qj hx
   clear i0 i1 i2 i3 i4 i5 i6 i7 i8 i9 i10
   obtain ⟨j0,j1,j2,j3,j4,j5,j6,j7,j8,j9,j10⟩:=(HT.out.ext hx).second
   clear hx
   go_wp2_with fail
   rw [rounds_succ]
   go_wp2_with fail
   refine (H1.out _ HX.out).mono ?_
   rintro e w2 ⟨rfl,hx⟩
   have HX:=qj (HX.out.trans hx)
   clear hx j0 j1 j2 j3 j4 j5 j6 j7 j8 j9 j10
   go_wp2_with fail
   rw [rounds_succ]
   go_wp2_with fail
   go_ret
   exact ⟨rfl,HX.out⟩
theorem zbf (F:Nat) (caps:Array Value) (f0 f1:CopL) (b0 b1:Bool) (g c:Nat) (w:World) (hgo:Enters Tryz.prog F) (hT:TwoL w g f0 f1) (h0:Asks w F caps f0 b0) (h1:Asks w F caps f1 b1) :
 (cL 159 #[.slice (some ⟨g,0,none⟩) 2 c,.func (.func F) #[] caps] w (.bool (b0 || b1)):Prop):=by
 have HI:=qj (zqQ F caps f0 f1 b0 b1 g c w hgo hT h0 h1)
 clear hT h0 h1
 have hz:decide (0≤firstI b0 b1)=(b0 || b1):=by cases b0 <;> cases b1 <;> rfl
 generalize firstI b0 b1=z at HI hz
 generalize (b0 || b1)=r at hz ⊢
 clear hgo
 go_enter Tryz.func159,Tryz.ntmps159
 go_wp2_with fail
 refine HI.out.mono ?_
 rintro e w1 ⟨rfl,hx⟩
 have HX:=qj hx
 clear hx
 go_wp2_with fail
 go_ret
 exact ⟨rfl,HX.out⟩
end Go.Proofs.YtdbpdhlecgoclaaGreatDoor
