/-
 WalPlays: whatever is done to a log and its disk,each call answers,and the log tells,what the chapter says.
-/
import Derived.Test.YtdbpdhlecgoclaaGreatDoorP00
import Derived.Test.YtdbpdhlecgoclaaGreatDoorP34
import Derived.Test.YtdbpdhlecgoclaaGreatDoorP35
import Derived.Deep.DeepCutAuto
import Derived.Deep.CutBlock
import Derived.Deep.RegionHeld3
namespace Go.Proofs.YtdbpdhlecgoclaaGreatDoor
set_option maxRecDepth 100000
set_option maxHeartbeats 6400000
set_option maxRecDepth 100000
open Go Go.RowKit
theorem znX (w:World):(binOp .eql 31 (.pointer none) (.pointer none)).run Tryz.prog w=.ok (.bool true) w:=by
 first | kernel_rfl | rfl | simp [binOp,go_sem]
theorem ziu (g:Nat) (w:World):(binOp .eql 31 (aD g 0) (.pointer none)).run Tryz.prog w=.ok (.bool false) w:=by
 first | kernel_rfl | rfl | simp [binOp,go_sem]
theorem c24L {w:World} {g:Nat} {t:TypeId} {x0 x1 x2 x3 x4 x5 x6 x7 x8 x9 x10 x11 x12 x13 x14 x15 x16 x17 x18 x19 x20 x21 x22 x23:Value} (h:w.heap[g]?=some (.cells #[x0,x1,x2,x3,x4,x5,x6,x7,x8,x9,x10,x11,x12,x13,x14,x15,x16,x17,x18,x19,x20,x21,x22,x23] t (0,0))):(CW.mk w g [x0,x1,x2,x3,x4,x5,x6,x7,x8,x9,x10,x11,x12,x13,x14,x15,x16,x17,x18,x19,x20,x21,x22,x23]:Prop) :=
 ⟨cell_of_row w g 0 _ _ _ h,cell_of_row w g 1 _ _ _ h,cell_of_row w g 2 _ _ _ h,cell_of_row w g 3 _ _ _ h,cell_of_row w g 4 _ _ _ h,cell_of_row w g 5 _ _ _ h,cell_of_row w g 6 _ _ _ h,cell_of_row w g 7 _ _ _ h,cell_of_row w g 8 _ _ _ h,cell_of_row w g 9 _ _ _ h,cell_of_row w g 10 _ _ _ h,cell_of_row w g 11 _ _ _ h,cell_of_row w g 12 _ _ _ h,cell_of_row w g 13 _ _ _ h,cell_of_row w g 14 _ _ _ h,cell_of_row w g 15 _ _ _ h,cell_of_row w g 16 _ _ _ h,cell_of_row w g 17 _ _ _ h,cell_of_row w g 18 _ _ _ h,cell_of_row w g 19 _ _ _ h,cell_of_row w g 20 _ _ _ h,cell_of_row w g 21 _ _ _ h,cell_of_row w g 22 _ _ _ h,cell_of_row w g 23 _ _ _ h⟩
theorem zuD:(Tryz.prog.info? 52).map (·.size)=some 24:=by kernel_rfl
set_option maxRecDepth 100000 in
theorem zip (r inc sn at_:Int) (A:Option Addr) (n c:Nat) (l:List ActL) (w:World) (hl:Ls ActL.cells 24 w w.heap.size A n c l∧∀a∈l,a.Ok w w.heap.size) (hL:LaidF w) (hLS:LaidS w) :
 (cL 3 #[r,inc,sn,.slice A n c,at_] w (.bool true):Prop):=by
 have HA:=qj hl.1
 have HO:=qj hl.2
 have hcap:=hl.1.cap
 have hmost:=hl.1.most
 have HL:=qj hL
 have HLS:=qj hLS
 have hn0:=Nat.zero_le n
 have hnils:=znX
 have hsnil:=ziu
 clear hl hL hLS
 go_enter Tryz.func3,Tryz.ntmps3
 go_wp2_with fail
 refine (zpx A n c l HA.out HO.out).mono ?_
 rintro e w1 ⟨b,rfl,hx,hg⟩
 have HE:=qj hx
 clear hx
 cases b with
 | true =>
  go_wp2_with fail
  go_ret
  exact ⟨rfl,HE.out⟩
 | false =>
  obtain ⟨hn40,hall⟩:=hg rfl
  have HALL:=qj hall
  clear hg hall
  go_wp2_with fail
  refine (ztg 156 _ (by omega) (by omega)).mono ?_
  rintro e w2 ⟨d,rfl,hp,hx⟩
  have HP2:=qj hp
  have HX2:=qj hx
  clear hp hx
  go_wp2_with fail
  refine (zqb 156 w2 (by omega) (by omega)).mono ?_
  rintro e w3 ⟨q,p,rfl,hr,hlw,hx⟩
  have HB:=qj (Both.new HE.out HP2.out HX2.out hr hlw hx)
  clear hr hlw hx HP2 HX2
  have HS0:Hid ((DM.new 156).size=156∧(DM.new 156).waits.length=0):=qj ⟨by simp [DM.new,DM.size],rfl⟩
  generalize DM.new 156=M0 at *
  go_wp2_with fail
  by_cases hE:openE M0 r inc sn=0
  case neg =>
   refine (zlg HB.out.dk.disk (HL.out.ext HB.out.dk.bel) r inc sn hE).mono ?_
   rintro e w4 ⟨rfl,hx⟩
   have HRO:=qj (ziP (HB.out.rd.ext hx) r inc sn hE)
   have HX4:Hid (Ext w w4):=qj (HB.out.dk.bel.trans hx)
   generalize openE M0 r inc sn=E at *
   have hne:(E != 0)=true:=by simpa using hE
   have hee:(E != E)=false:=by simp
   clear hE hx
   go_wp2_with fail
   refine HRO.out.mono ?_
   rintro e w5 ⟨rfl,rfl⟩
   go_wp2_with fail
   go_ret
   exact ⟨rfl,HX4.out⟩
  obtain ⟨_,hr6,hc6,hs6,_⟩:=zdB hE
  obtain ⟨s,rfl⟩:∃s:Nat,sn=(s:Int):=⟨sn.toNat,by omega⟩
  have HR:=qj hr6
  have HC6:Hid ((1≤inc∧inc≤1099511627776)∧s≤1099511627752):=qj ⟨hc6,by omega⟩
  refine (ziD HB.out.dk.disk (HL.out.ext HB.out.dk.bel) r inc (s:Int) hE).mono ?_
  rintro e w4 ⟨g,rfl,hlog,hg,hx⟩
  rw [Int.toNat_natCast] at hlog
  have HRO:=qj (zhK (HB.out.rd.ext hx) r inc s hE)
  have HM:=qj (And.intro hlog (And.intro hg hx))
  clear hr6 hc6 hs6 hE hlog hg hx
  go_wp2_with fail
  refine HRO.out.mono ?_
  rintro e w5 ⟨rfl,hrl,hx5⟩
  have HP5:=qj (PairW.made HB.out HM.out.2.2 hx5 HM.out.1 HM.out.2.1 hrl (Nat.le_refl _))
  generalize w4.heap.size=y at *
  clear hrl hx5 HRO
  go_wp2_with fail
  go_loopw [15,17,19] (fun vx vy i wr=>∃(k g y:Nat) (F:Nat→Prop) (p:Nat→Nat) (M:DM) (s:Nat) (ic:Int),k≤n∧vx=.pointer (some ⟨g,0,none⟩)∧vy=.pointer (some ⟨y,0,none⟩)∧i=.int .i64 (k:Int)∧Hid (PairW w wr d g q y r ic F p M s M s)∧Hid (M.size=156∧M.waits.length≤20 * (k+1))∧Hid (s≤1099511627752)∧Hid (1≤ic∧ic≤1099511627776)) (fun _ _ i _=>n-(intOf i).toNat)
  case atStart=>exact ⟨0,g,y,_,p,M0,s,inc,by omega,rfl,rfl,by simp,HP5,qj ⟨HS0.out.1,by have:=HS0.out.2;omega⟩,qj HC6.out.2,qj HC6.out.1⟩
  case round =>
   obtain ⟨k,g,y,F,p,M,s,ic,hkn,rfl,rfl,rfl,HP,HM,HSO,HIC⟩:=hrel
   by_cases hlt:k<n
   case neg =>
    obtain rfl:k=n:=by omega
    go_wp2_with fail
    go_ret
    exact ⟨rfl,HP.out.both.dk.bel⟩
   obtain ⟨gl,o,a,rfl,hgl,ha,h0⟩:=HA.out.at_ hlt
   have HAL:=qj (HALL.out a (List.mem_of_getElem? ha))
   have HOK:=qj (HO.out a (List.mem_of_getElem? ha))
   have hklt:=HOK.out.lt
   have HB0:Hid (Ext w wr):=qj HP.out.both.dk.bel
   have HRG:Hid (wr.rangeAt gl (o+k * 24) a):=qj (fun j v hv=>by rw [Nat.add_assoc];exact zbi HB0.out (h0 j v hv))
   have hz:=heap_alloc_new wr (.cells a 52)
   have hx:=(Ext.refl wr).alloc (.cells a 52)
   have HNB:Hid (NB F p g y wr.heap.size):=qj ⟨fun hf=>Nat.lt_irrefl _ (HP.out.both.dk.disk.lt _ hf),zdk HP.out.both.rd (Nat.le_refl _),fun e=>by have:=HP.out.log.lt;omega,fun e=>by have:=HP.out.rlog.lt;omega⟩
   have HP:=qj (HP.out.ext hx)
   clear h0 ha HB0
   have HI24:=qj zuD
   have HZ:=qj hz
   clear hz
   go_upto_region 19 with (first | (refine wpList_load_mid rfl 52 _ rfl gl (o+k * 24) rfl a _ HRG.out Tryz.underlying52 rfl HI24.out ?_) | (refine zaP rfl 52 _ _ rfl a wr.heap.size (by simp) rfl rfl rfl HI24.out (by simp [Value.oneCell']) ?_))
   generalize (wr.alloc (.cells a 52))=wv at *
   obtain ⟨gs,hgs⟩:∃gs,wr.heap.size=gs:=⟨_,rfl⟩
   rw [hgs] at HZ HNB ⊢
   clear hx hgs HRG HI24
   obtain ⟨s0,s1,s2,s3,s4,s5,s6,s7,s8,s9,s10,s11,s12,s13,s14,s15,s16,s17,s18,s19,s20,s21,s22,s23⟩:=c24L HZ.out
   clear s1 s2 s3 s4 s5 s6 s7 s8 s9 s10 s11 s12 s13 s14 s15 s16 s17 s18 s19 s20 s21 s22 s23
   go_upto_block 2 with (fail)
   clear s0
   go_cut [15,17] (fun vx vy wx=>∃(g2 y2:Nat) (F2:Nat→Prop) (p2:Nat→Nat) (M2:DM) (s2:Nat) (ic2:Int),vx=.pointer (some ⟨g2,0,none⟩)∧vy=.pointer (some ⟨y2,0,none⟩)∧Hid (PairW w wx d g2 q y2 r ic2 F2 p2 M2 s2 M2 s2)∧Hid (M2.size=156∧M2.waits.length≤20 * (k+2))∧Hid (s2≤1099511627752)∧Hid (1≤ic2∧ic2≤1099511627776)∧Hid (wx.heap[gs]?=some (.cells a 52 (0,0))∧NB F2 p2 g2 y2 gs))
   case first =>
    have hM:=HM.out.2
    have hM1000:M.waits.length≤900:=by omega
    have hk5:a.k%5=0∨a.k%5=1∨a.k%5=2∨a.k%5=3∨a.k%5=4:=by omega
    rcases hk5 with hk | hk | hk | hk | hk
    ·as_aux_lemma =>
      have hst:=zjg (HP.out.ext (Ext.refl wv).drew) HL.out HLS.out HR.out HIC.out HSO.out a.i a.x a.y a.e HOK.out.e.ok (by omega)
      have hsr:=fun (V1:World) (F1:Nat→Prop) (M1:DM) (hb:PairW w V1 d g q y r ic F1 p M1 s M s)=>zhu hb HR.out HIC.out HSO.out a.i a.x a.y a.e HOK.out.e.ok (by omega)
      have hmore:=ziT (m:=M) (i:=a.i) (x:=a.x) (y:=a.y) (e:=a.e) HR.out HIC.out HSO.out
      generalize M.putA s r ic a.i a.x a.y a.e=Z at *
      obtain ⟨E,M2⟩:=Z
      dsimp only at hst hsr hmore
      have HST:=qj hst
      have HSR:=qj hsr
      have HM2:Hid (M2.size=156∧M2.waits.length≤20 * (k+2)):=qj ⟨hmore.2.trans HM.out.1,by omega⟩
      have hee:(E != E)=false:=by simp
      have hS0:wv.drew.cell? (aD gs 1)=some (.int .i64 a.i)∧wv.drew.cell? (aD gs 3)=some (.int .i64 a.x)∧wv.drew.cell? (aD gs 4)=some (.int .i64 a.y)∧wv.drew.cell? (aD gs 5)=some (.int .u8 (a.e.k:Int))∧wv.drew.cell? (aD gs 6)=some (.int .i64 a.e.cl)∧wv.drew.cell? (aD gs 7)=some (.int .i64 a.e.sq)∧wv.drew.cell? (aD gs 8)=some (.int .u8 (a.e.ok:Int))∧wv.drew.cell? (aD gs 9)=some (.string a.e.key)∧wv.drew.cell? (aD gs 10)=some (.string a.e.old)∧wv.drew.cell? (aD gs 11)=some (.string a.e.val):=(by obtain ⟨s0,s1,s2,s3,s4,s5,s6,s7,s8,s9,s10,s11,s12,s13,s14,s15,s16,s17,s18,s19,s20,s21,s22,s23⟩:=c24L HZ.out;exact ⟨s1,s3,s4,s5,s6,s7,s8,s9,s10,s11⟩)
      clear hst hsr hmore
      have hk0:((a.k:Int)%5 == 0)=true:=by simp;omega
      have s0:wv.cell? (aD gs 0)=some (.int .u8 (a.k:Int)):=(by obtain ⟨s0,s1,s2,s3,s4,s5,s6,s7,s8,s9,s10,s11,s12,s13,s14,s15,s16,s17,s18,s19,s20,s21,s22,s23⟩:=c24L HZ.out;exact s0)
      go_upto_region 24 with (fail)
      clear s0
      go_region_held3 (fun w'=>w'.cell? (aD gs 1)=some (.int .i64 a.i)∧w'.cell? (aD gs 3)=some (.int .i64 a.x)∧w'.cell? (aD gs 4)=some (.int .i64 a.y)∧w'.cell? (aD gs 5)=some (.int .u8 (a.e.k:Int))∧w'.cell? (aD gs 6)=some (.int .i64 a.e.cl)∧w'.cell? (aD gs 7)=some (.int .i64 a.e.sq)∧w'.cell? (aD gs 8)=some (.int .u8 (a.e.ok:Int))∧w'.cell? (aD gs 9)=some (.string a.e.key)∧w'.cell? (aD gs 10)=some (.string a.e.old)∧w'.cell? (aD gs 11)=some (.string a.e.val))
       (first | with_reducible exact hS0 | with_reducible exact hS1 | with_reducible exact hS2)
       (first
        | (go_at_call 9;((with_reducible refine HST.out.mono ?_);rintro e ws ⟨rfl,hi⟩;obtain ⟨Fa,hpa,hka⟩:=(HP.out.ext (Ext.refl wv).drew).step hi;have HZa:=qj (hka.row (w:=wv.drew) HZ.out HNB.out);have HPa:=qj hpa;have hS1:ws.cell? (aD gs 1)=some (.int .i64 a.i)∧ws.cell? (aD gs 3)=some (.int .i64 a.x)∧ws.cell? (aD gs 4)=some (.int .i64 a.y)∧ws.cell? (aD gs 5)=some (.int .u8 (a.e.k:Int))∧ws.cell? (aD gs 6)=some (.int .i64 a.e.cl)∧ws.cell? (aD gs 7)=some (.int .i64 a.e.sq)∧ws.cell? (aD gs 8)=some (.int .u8 (a.e.ok:Int))∧ws.cell? (aD gs 9)=some (.string a.e.key)∧ws.cell? (aD gs 10)=some (.string a.e.old)∧ws.cell? (aD gs 11)=some (.string a.e.val):=(by obtain ⟨s0,s1,s2,s3,s4,s5,s6,s7,s8,s9,s10,s11,s12,s13,s14,s15,s16,s17,s18,s19,s20,s21,s22,s23⟩:=c24L HZa.out.1;exact ⟨s1,s3,s4,s5,s6,s7,s8,s9,s10,s11⟩);clear hi hpa hka))
        | (go_at_call 10;((with_reducible refine (HSR.out _ _ _ HPa.out).mono ?_);rintro e wt ⟨rfl,hi⟩;obtain ⟨pb,hpb,hkb⟩:=HPa.out.out hi;have HZb:=qj (hkb.row HZa.out.1 HZa.out.2);have HPb:=qj hpb;have hS2:wt.cell? (aD gs 1)=some (.int .i64 a.i)∧wt.cell? (aD gs 3)=some (.int .i64 a.x)∧wt.cell? (aD gs 4)=some (.int .i64 a.y)∧wt.cell? (aD gs 5)=some (.int .u8 (a.e.k:Int))∧wt.cell? (aD gs 6)=some (.int .i64 a.e.cl)∧wt.cell? (aD gs 7)=some (.int .i64 a.e.sq)∧wt.cell? (aD gs 8)=some (.int .u8 (a.e.ok:Int))∧wt.cell? (aD gs 9)=some (.string a.e.key)∧wt.cell? (aD gs 10)=some (.string a.e.old)∧wt.cell? (aD gs 11)=some (.string a.e.val):=(by obtain ⟨s0,s1,s2,s3,s4,s5,s6,s7,s8,s9,s10,s11,s12,s13,s14,s15,s16,s17,s18,s19,s20,s21,s22,s23⟩:=c24L HZb.out.1;exact ⟨s1,s3,s4,s5,s6,s7,s8,s9,s10,s11⟩);clear hi hpb hkb)))
      go_wp2_with fail
      go_meet
      exact ⟨g,y,Fa,pb,M2,s,ic,rfl,rfl,HPb,HM2,HSO,HIC,HZb⟩
    ·as_aux_lemma =>
      have hst:=zjg (HP.out.ext (Ext.refl wv).drew) HL.out HLS.out HR.out HIC.out HSO.out a.i a.x a.y a.e HOK.out.e.ok (by omega)
      have hsr:=fun (V1:World) (F1:Nat→Prop) (M1:DM) (hb:PairW w V1 d g q y r ic F1 p M1 s M s)=>zhu hb HR.out HIC.out HSO.out a.i a.x a.y a.e HOK.out.e.ok (by omega)
      have hmore:=ziT (m:=M) (i:=a.i) (x:=a.x) (y:=a.y) (e:=a.e) HR.out HIC.out HSO.out
      generalize M.putA s r ic a.i a.x a.y a.e=Z at *
      obtain ⟨E,M2⟩:=Z
      dsimp only at hst hsr hmore
      have HST:=qj hst
      have HSR:=qj hsr
      have HM2:Hid (M2.size=156∧M2.waits.length≤20 * (k+2)):=qj ⟨hmore.2.trans HM.out.1,by omega⟩
      have hee:(E != E)=false:=by simp
      have hS0:wv.drew.cell? (aD gs 1)=some (.int .i64 a.i)∧wv.drew.cell? (aD gs 3)=some (.int .i64 a.x)∧wv.drew.cell? (aD gs 4)=some (.int .i64 a.y)∧wv.drew.cell? (aD gs 5)=some (.int .u8 (a.e.k:Int))∧wv.drew.cell? (aD gs 6)=some (.int .i64 a.e.cl)∧wv.drew.cell? (aD gs 7)=some (.int .i64 a.e.sq)∧wv.drew.cell? (aD gs 8)=some (.int .u8 (a.e.ok:Int))∧wv.drew.cell? (aD gs 9)=some (.string a.e.key)∧wv.drew.cell? (aD gs 10)=some (.string a.e.old)∧wv.drew.cell? (aD gs 11)=some (.string a.e.val):=(by obtain ⟨s0,s1,s2,s3,s4,s5,s6,s7,s8,s9,s10,s11,s12,s13,s14,s15,s16,s17,s18,s19,s20,s21,s22,s23⟩:=c24L HZ.out;exact ⟨s1,s3,s4,s5,s6,s7,s8,s9,s10,s11⟩)
      clear hst hsr hmore
      have hk0:((a.k:Int)%5 == 0)=false:=by simp;omega
      have hk1:((a.k:Int)%5 == 1)=true:=by simp;omega
      have s0:wv.cell? (aD gs 0)=some (.int .u8 (a.k:Int)):=(by obtain ⟨s0,s1,s2,s3,s4,s5,s6,s7,s8,s9,s10,s11,s12,s13,s14,s15,s16,s17,s18,s19,s20,s21,s22,s23⟩:=c24L HZ.out;exact s0)
      go_upto_region 24 with (fail)
      clear s0
      go_region_held3 (fun w'=>w'.cell? (aD gs 1)=some (.int .i64 a.i)∧w'.cell? (aD gs 3)=some (.int .i64 a.x)∧w'.cell? (aD gs 4)=some (.int .i64 a.y)∧w'.cell? (aD gs 5)=some (.int .u8 (a.e.k:Int))∧w'.cell? (aD gs 6)=some (.int .i64 a.e.cl)∧w'.cell? (aD gs 7)=some (.int .i64 a.e.sq)∧w'.cell? (aD gs 8)=some (.int .u8 (a.e.ok:Int))∧w'.cell? (aD gs 9)=some (.string a.e.key)∧w'.cell? (aD gs 10)=some (.string a.e.old)∧w'.cell? (aD gs 11)=some (.string a.e.val))
       (first | with_reducible exact hS0 | with_reducible exact hS1 | with_reducible exact hS2)
       (first
        | (go_at_call 9;((with_reducible refine HST.out.mono ?_);rintro e ws ⟨rfl,hi⟩;obtain ⟨Fa,hpa,hka⟩:=(HP.out.ext (Ext.refl wv).drew).step hi;have HZa:=qj (hka.row (w:=wv.drew) HZ.out HNB.out);have HPa:=qj hpa;have hS1:ws.cell? (aD gs 1)=some (.int .i64 a.i)∧ws.cell? (aD gs 3)=some (.int .i64 a.x)∧ws.cell? (aD gs 4)=some (.int .i64 a.y)∧ws.cell? (aD gs 5)=some (.int .u8 (a.e.k:Int))∧ws.cell? (aD gs 6)=some (.int .i64 a.e.cl)∧ws.cell? (aD gs 7)=some (.int .i64 a.e.sq)∧ws.cell? (aD gs 8)=some (.int .u8 (a.e.ok:Int))∧ws.cell? (aD gs 9)=some (.string a.e.key)∧ws.cell? (aD gs 10)=some (.string a.e.old)∧ws.cell? (aD gs 11)=some (.string a.e.val):=(by obtain ⟨s0,s1,s2,s3,s4,s5,s6,s7,s8,s9,s10,s11,s12,s13,s14,s15,s16,s17,s18,s19,s20,s21,s22,s23⟩:=c24L HZa.out.1;exact ⟨s1,s3,s4,s5,s6,s7,s8,s9,s10,s11⟩);clear hi hpa hka))
        | (go_at_call 10;((with_reducible refine (HSR.out _ _ _ HPa.out).mono ?_);rintro e wt ⟨rfl,hi⟩;obtain ⟨pb,hpb,hkb⟩:=HPa.out.out hi;have HZb:=qj (hkb.row HZa.out.1 HZa.out.2);have HPb:=qj hpb;have hS2:wt.cell? (aD gs 1)=some (.int .i64 a.i)∧wt.cell? (aD gs 3)=some (.int .i64 a.x)∧wt.cell? (aD gs 4)=some (.int .i64 a.y)∧wt.cell? (aD gs 5)=some (.int .u8 (a.e.k:Int))∧wt.cell? (aD gs 6)=some (.int .i64 a.e.cl)∧wt.cell? (aD gs 7)=some (.int .i64 a.e.sq)∧wt.cell? (aD gs 8)=some (.int .u8 (a.e.ok:Int))∧wt.cell? (aD gs 9)=some (.string a.e.key)∧wt.cell? (aD gs 10)=some (.string a.e.old)∧wt.cell? (aD gs 11)=some (.string a.e.val):=(by obtain ⟨s0,s1,s2,s3,s4,s5,s6,s7,s8,s9,s10,s11,s12,s13,s14,s15,s16,s17,s18,s19,s20,s21,s22,s23⟩:=c24L HZb.out.1;exact ⟨s1,s3,s4,s5,s6,s7,s8,s9,s10,s11⟩);clear hi hpb hkb)))
      go_wp2_with fail
      go_meet
      exact ⟨g,y,Fa,pb,M2,s,ic,rfl,rfl,HPb,HM2,HSO,HIC,HZb⟩
    ·as_aux_lemma =>
      have hk0:((a.k:Int)%5 == 0)=false:=by simp;omega
      have hk1:((a.k:Int)%5 == 1)=false:=by simp;omega
      have hk2:((a.k:Int)%5 == 2)=true:=by simp;omega
      have hwait:M.size=156∧M.waits.length≤20 * (k+2):=⟨HM.out.1,by omega⟩
      have HMM:=qj hwait
      have HCT:=qj (zun (n:=a.i) HSO.out)
      have HST:=qj (ztj (HP.out.ext (Ext.refl wv).drew).log a.i)
      have HSR:=qj (fun (V1:World) (s1:Nat) (hb:PairW w V1 d g q y r ic F p M s1 M s)=>zpV hb.rlog a.i)
      obtain ⟨E,hE⟩:∃E:Int,(if cutB s a.i=true then 0 else 2)=E:=⟨_,rfl⟩
      obtain ⟨sn,hsn⟩:∃sn:Nat,(if cutB s a.i=true then a.i.toNat else s)=sn:=⟨_,rfl⟩
      rw [hE,hsn] at HST
      rw [hsn] at HCT
      have HSR:Hid (∀(V1:World) (s1:Nat) (_:PairW w V1 d g q y r ic F p M s1 M s),Calls Tryz.prog 12 #[aD y 0,a.i] V1 fun e w'=>e=.returned E∧RLogAt w' y q r ic sn∧Mod (fun k=>k=y) V1 w'):=qj (fun V1 s1 hb=>by have h:=HSR.out V1 s1 hb;rw [hE,hsn] at h;exact h)
      have hee:(E != E)=false:=by simp
      have hS0:wv.drew.cell? (aD gs 1)=some (.int .i64 a.i):=(by obtain ⟨s0,s1,s2,s3,s4,s5,s6,s7,s8,s9,s10,s11,s12,s13,s14,s15,s16,s17,s18,s19,s20,s21,s22,s23⟩:=c24L HZ.out;exact s1)
      clear hE hsn hwait
      have s0:wv.cell? (aD gs 0)=some (.int .u8 (a.k:Int)):=(by obtain ⟨s0,s1,s2,s3,s4,s5,s6,s7,s8,s9,s10,s11,s12,s13,s14,s15,s16,s17,s18,s19,s20,s21,s22,s23⟩:=c24L HZ.out;exact s0)
      go_upto_region 27 with (fail)
      clear s0
      go_region_held3 (fun w'=>w'.cell? (aD gs 1)=some (.int .i64 a.i))
       (first | with_reducible exact hS0 | with_reducible exact hS1 | with_reducible exact hS2)
       (first
        | (go_at_call 11;((with_reducible refine HST.out.mono ?_);rintro e ws ⟨rfl,hi,hm⟩;obtain ⟨hpa,hka⟩:=(HP.out.ext (Ext.refl wv).drew).cut hi hm;have HZa:=qj (hka.row (w:=wv.drew) HZ.out HNB.out);have HPa:=qj hpa;have hS1:ws.cell? (aD gs 1)=some (.int .i64 a.i):=(by obtain ⟨s0,s1,s2,s3,s4,s5,s6,s7,s8,s9,s10,s11,s12,s13,s14,s15,s16,s17,s18,s19,s20,s21,s22,s23⟩:=c24L HZa.out.1;exact s1);clear hi hm hpa hka))
        | (go_at_call 12;((with_reducible refine (HSR.out _ _ HPa.out).mono ?_);rintro e wt ⟨rfl,hi,hm⟩;obtain ⟨hpb,hkb⟩:=HPa.out.rcut hi hm;have HZb:=qj (hkb.row HZa.out.1 HZa.out.2);have HPb:=qj hpb;have hS2:wt.cell? (aD gs 1)=some (.int .i64 a.i):=(by obtain ⟨s0,s1,s2,s3,s4,s5,s6,s7,s8,s9,s10,s11,s12,s13,s14,s15,s16,s17,s18,s19,s20,s21,s22,s23⟩:=c24L HZb.out.1;exact s1);clear hi hm hpb hkb)))
      go_wp2_with fail
      go_meet
      exact ⟨g,y,F,p,M,sn,ic,rfl,rfl,HPb,HMM,HCT,HIC,HZb⟩
    ·as_aux_lemma =>
      have hk0:((a.k:Int)%5 == 0)=false:=by simp;omega
      have hk1:((a.k:Int)%5 == 1)=false:=by simp;omega
      have hk2:((a.k:Int)%5 == 2)=false:=by simp;omega
      have hk3:((a.k:Int)%5 == 3)=true:=by simp;omega
      have hwait:M.size=156∧M.waits.length≤20 * (k+2):=⟨HM.out.1,by omega⟩
      have HMM:=qj hwait
      have HSN:=qj (zno (HP.out.ext (Ext.refl wv).drew).ld)
      have hS0:wv.drew.cell? (aD gs 2)=some (.int .i64 a.n):=(by obtain ⟨s0,s1,s2,s3,s4,s5,s6,s7,s8,s9,s10,s11,s12,s13,s14,s15,s16,s17,s18,s19,s20,s21,s22,s23⟩:=c24L HZ.out;exact s2)
      clear hwait
      have s0:wv.cell? (aD gs 0)=some (.int .u8 (a.k:Int)):=(by obtain ⟨s0,s1,s2,s3,s4,s5,s6,s7,s8,s9,s10,s11,s12,s13,s14,s15,s16,s17,s18,s19,s20,s21,s22,s23⟩:=c24L HZ.out;exact s0)
      go_upto_region 30 with (fail)
      clear s0
      by_cases hE:openE M r a.n (s:Int)=0
      case neg =>
       have HON:=qj (zlg (HP.out.ext (Ext.refl wv).drew).both.dk.disk (HL.out.ext (HP.out.ext (Ext.refl wv).drew).both.dk.bel) r a.n (s:Int) hE)
       have HRN:=qj (fun (V1:World) (hb:PairW w V1 d g q y r ic F p M s M s)=>ziP hb.both.rd r a.n (s:Int) hE)
       generalize openE M r a.n (s:Int)=E at *
       have hee:(E != E)=false:=by simp
       have heq:(E == 0)=false:=by simpa using hE
       clear hE
       go_region_held3 (fun w'=>w'.cell? (aD gs 2)=some (.int .i64 a.n))
        (first | with_reducible exact hS0 | with_reducible exact hS1)
        (first
         | (go_at_call 13;((with_reducible refine HSN.out.mono ?_);rintro e w8 ⟨rfl,rfl⟩))
         | (go_at_call 7;((with_reducible refine HON.out.mono ?_);rintro e ws ⟨rfl,hx⟩;have HPa:=qj ((HP.out.ext (Ext.refl wv).drew).ext hx);have HZa:=qj ((KpS.ext hx).row (w:=wv.drew) HZ.out HNB.out);have hS1:ws.cell? (aD gs 2)=some (.int .i64 a.n):=(by obtain ⟨s0,s1,s2,s3,s4,s5,s6,s7,s8,s9,s10,s11,s12,s13,s14,s15,s16,s17,s18,s19,s20,s21,s22,s23⟩:=c24L HZa.out.1;exact s2);clear hx)))
       have HPb:=qj (HPa.out.ext (Ext.refl ws).drew)
       have HZb:=qj ((KpS.ext (Ext.refl ws).drew).row HZa.out.1 HZa.out.2)
       have hT0:ws.drew.cell? (aD gs 2)=some (.int .i64 a.n)∧ws.drew.cell? (aD y 3)=some (.int .i64 (s:Int)):=⟨(by obtain ⟨s0,s1,s2,s3,s4,s5,s6,s7,s8,s9,s10,s11,s12,s13,s14,s15,s16,s17,s18,s19,s20,s21,s22,s23⟩:=c24L HZb.out.1;exact s2),HPb.out.rlog.cells.2.2.2⟩
       have HRO:=qj (HRN.out _ HPb.out)
       clear hS0 hS1
       go_wp2_with fail
       go_region_held3 (fun w'=>w'.cell? (aD gs 2)=some (.int .i64 a.n)∧w'.cell? (aD y 3)=some (.int .i64 (s:Int)))
        (with_reducible exact hT0)
        (first
         | (go_at_call 8;((with_reducible refine HRO.out.mono ?_);rintro e wt ⟨rfl,rfl⟩)))
       clear hT0
       go_wp2_with fail
       go_meet
       exact ⟨g,y,F,p,M,s,ic,rfl,rfl,HPb,HMM,HSO,HIC,HZb⟩
      case pos =>
       obtain ⟨_,_,hin6,_,_⟩:=zdB hE
       have HICn:=qj hin6
       have HON:=qj (ziD (HP.out.ext (Ext.refl wv).drew).both.dk.disk (HL.out.ext (HP.out.ext (Ext.refl wv).drew).both.dk.bel) r a.n (s:Int) hE)
       have HRN:=qj (fun (V1:World) (hb:RD V1 q p M)=>zhK hb r a.n s hE)
       clear hE hin6
       go_region_held3 (fun w'=>w'.cell? (aD gs 2)=some (.int .i64 a.n))
        (first | with_reducible exact hS0 | with_reducible exact hS1)
        (first
         | (go_at_call 13;((with_reducible refine HSN.out.mono ?_);rintro e w8 ⟨rfl,rfl⟩))
         | (go_at_call 7;((with_reducible refine HON.out.mono ?_);rintro e ws ⟨g9,rfl,hlog,hg9,hx⟩;have HLG:=qj (And.intro hlog (And.intro hg9 hx));have HZa:=qj ((KpS.ext hx).row (w:=wv.drew) HZ.out HNB.out);have hS1:ws.cell? (aD gs 2)=some (.int .i64 a.n):=(by obtain ⟨s0,s1,s2,s3,s4,s5,s6,s7,s8,s9,s10,s11,s12,s13,s14,s15,s16,s17,s18,s19,s20,s21,s22,s23⟩:=c24L HZa.out.1;exact s2);clear hlog hg9 hx)))
       have HZb:=qj ((KpS.ext (Ext.refl ws).drew).row HZa.out.1 HZa.out.2)
       have HPb:=qj ((((HP.out.ext (Ext.refl wv).drew).ext HLG.out.2.2)).ext (Ext.refl ws).drew)
       have hT0:ws.drew.cell? (aD gs 2)=some (.int .i64 a.n)∧ws.drew.cell? (aD y 3)=some (.int .i64 (s:Int)):=⟨(by obtain ⟨s0,s1,s2,s3,s4,s5,s6,s7,s8,s9,s10,s11,s12,s13,s14,s15,s16,s17,s18,s19,s20,s21,s22,s23⟩:=c24L HZb.out.1;exact s2),HPb.out.rlog.cells.2.2.2⟩
       have HRO:=qj (HRN.out _ HPb.out.both.rd)
       clear hS0 hS1
       go_wp2_with fail
       go_region_held3 (fun w'=>w'.cell? (aD gs 2)=some (.int .i64 a.n)∧w'.cell? (aD y 3)=some (.int .i64 (s:Int)))
        (first | with_reducible exact hT0 | with_reducible exact hT1)
        (first
         | (go_at_call 8;((with_reducible refine HRO.out.mono ?_);rintro e wt ⟨rfl,hrl,hx⟩;have HRL:=qj (And.intro hrl hx);have HZc:=qj ((KpS.ext hx).row (w:=ws.drew) HZb.out.1 HZb.out.2);have HPc:=qj (HPb.out.ext hx);have hT1:wt.cell? (aD gs 2)=some (.int .i64 a.n)∧wt.cell? (aD y 3)=some (.int .i64 (s:Int)):=⟨(by obtain ⟨s0,s1,s2,s3,s4,s5,s6,s7,s8,s9,s10,s11,s12,s13,s14,s15,s16,s17,s18,s19,s20,s21,s22,s23⟩:=c24L HZc.out.1;exact s2),HPc.out.rlog.cells.2.2.2⟩;clear hrl hx)))
       have hgs:gs<wv.heap.size:=(Array.getElem?_eq_some_iff.1 HZ.out).1
       have hw1:wv.heap.size≤g9:=HLG.out.2.1
       have hw2:wv.heap.size≤ws.heap.size:=HLG.out.2.2.size
       have hlogn:LogAt ws g9 d r a.n s:=by have h:=HLG.out.1;rw [Int.toNat_natCast] at h;exact h
       have HPn:Hid (PairW w wt d g9 q ws.drew.heap.size r a.n F p M s M s):=qj (PairW.made (w:=wv.drew) (w1:=ws.drew) (HP.out.ext (Ext.refl wv).drew).both (HLG.out.2.2.trans (Ext.refl ws).drew) HRL.out.2 (hlogn.ext (Ext.refl ws).drew) hw1 HRL.out.1 (Nat.le_refl _))
       have hyn:gs≠ws.drew.heap.size:=by have:ws.drew.heap.size=ws.heap.size:=rfl;omega
       have HZn:Hid (wt.heap[gs]?=some (.cells a 52 (0,0))∧NB F p g9 ws.drew.heap.size gs):=qj ⟨HZc.out.1,HNB.out.1,HNB.out.2.1,by omega,hyn⟩
       have hsz9:ws.drew.heap.size=ws.heap.size:=rfl
       clear hT0 hT1 hgs hw1 hw2 hlogn hyn
       go_wp2_with fail
       go_meet
       exact ⟨g9,_,F,p,M,s,a.n,rfl,rfl,HPn,HMM,HSO,HICn,HZn⟩
    ·as_aux_lemma =>
      have hk0:((a.k:Int)%5 == 0)=false:=by simp;omega
      have hk1:((a.k:Int)%5 == 1)=false:=by simp;omega
      have hk2:((a.k:Int)%5 == 2)=false:=by simp;omega
      have hk3:((a.k:Int)%5 == 3)=false:=by simp;omega
      have hok2:(M.act6 a.o).size=156∧(M.act6 a.o).waits.length≤20 * (k+2):=by
       have h1:=zmx M a.o
       exact ⟨(zoK M a.o).trans HM.out.1,by omega⟩
      have hst:=ztu HP.out.both.dk HL.out.a.t a.o HOK.out.o HAL.out.2.1 (by omega)
      have hsr:=fun (V1:World) (F1:Nat→Prop) (M1:DM) (hb:Both w V1 d q F1 p M1 M)=>zoZ hb.rd hb.dk.bel hb.low HL.out.a.t a.o HOK.out.o HAL.out.2.1 (by omega)
      obtain ⟨M2,hM2⟩:∃M2,M.act6 a.o=M2:=⟨_,rfl⟩
      rw [hM2] at hst hsr hok2
      have HST:=qj hst
      have HSR:=qj hsr
      have HM2:=qj hok2
      clear hst hsr hok2 hM2
      obtain ⟨s0,s12,s13,s14,s15,s16,s17,s18,s19,s20,s21,s22,s23⟩:wv.cell? (aD gs 0)=some (.int .u8 (a.k:Int))∧wv.cell? (aD gs 12)=some (.bool a.o.sl)∧wv.cell? (aD gs 13)=some (.int .i64 a.o.ta)∧wv.cell? (aD gs 14)=some (.int .i64 a.o.tb)∧wv.cell? (aD gs 15)=some (.int .i64 a.o.tc)∧wv.cell? (aD gs 16)=some (.int .i64 a.o.td)∧wv.cell? (aD gs 17)=some (.int .i64 a.o.te)∧wv.cell? (aD gs 18)=some (.slice a.o.bA a.o.bn a.o.bc)∧wv.cell? (aD gs 19)=some (.int .u8 (a.o.act.kind:Int))∧wv.cell? (aD gs 20)=some (.int .i64 a.o.act.sec)∧wv.cell? (aD gs 21)=some (.int .i64 a.o.act.num)∧wv.cell? (aD gs 22)=some (.slice a.o.act.bA a.o.act.bn a.o.act.bc)∧wv.cell? (aD gs 23)=some (.slice a.o.act.kA a.o.act.kn a.o.act.kc):=(by obtain ⟨s0,s1,s2,s3,s4,s5,s6,s7,s8,s9,s10,s11,s12,s13,s14,s15,s16,s17,s18,s19,s20,s21,s22,s23⟩:=c24L HZ.out;exact ⟨s0,s12,s13,s14,s15,s16,s17,s18,s19,s20,s21,s22,s23⟩)
      go_wp2_with fail
      refine HST.out.mono ?_
      rintro e ws ⟨⟨v,rfl⟩,hs⟩
      obtain ⟨Fa,hpa,hka⟩:=HP.out.step hs
      have HZa:=qj (hka.row HZ.out HNB.out)
      have HPa:=qj hpa
      clear hs hpa hka s0 s12 s13 s14 s15 s16 s17 s18 s19 s20 s21 s22 s23
      obtain ⟨s12,s13,s14,s15,s16,s17,s18,s19,s20,s21,s22,s23⟩:ws.cell? (aD gs 12)=some (.bool a.o.sl)∧ws.cell? (aD gs 13)=some (.int .i64 a.o.ta)∧ws.cell? (aD gs 14)=some (.int .i64 a.o.tb)∧ws.cell? (aD gs 15)=some (.int .i64 a.o.tc)∧ws.cell? (aD gs 16)=some (.int .i64 a.o.td)∧ws.cell? (aD gs 17)=some (.int .i64 a.o.te)∧ws.cell? (aD gs 18)=some (.slice a.o.bA a.o.bn a.o.bc)∧ws.cell? (aD gs 19)=some (.int .u8 (a.o.act.kind:Int))∧ws.cell? (aD gs 20)=some (.int .i64 a.o.act.sec)∧ws.cell? (aD gs 21)=some (.int .i64 a.o.act.num)∧ws.cell? (aD gs 22)=some (.slice a.o.act.bA a.o.act.bn a.o.act.bc)∧ws.cell? (aD gs 23)=some (.slice a.o.act.kA a.o.act.kn a.o.act.kc):=(by obtain ⟨s0,s1,s2,s3,s4,s5,s6,s7,s8,s9,s10,s11,s12,s13,s14,s15,s16,s17,s18,s19,s20,s21,s22,s23⟩:=c24L HZa.out.1;exact ⟨s12,s13,s14,s15,s16,s17,s18,s19,s20,s21,s22,s23⟩)
      go_wp2_with fail
      refine (HSR.out _ _ _ HPa.out.both).mono ?_
      rintro e wt ⟨⟨v2,rfl⟩,ho⟩
      obtain ⟨pb,hpb,hkb⟩:=HPa.out.out ho
      have HZb:=qj (hkb.row HZa.out.1 HZa.out.2)
      have HPb:=qj hpb
      clear ho hpb hkb s12 s13 s14 s15 s16 s17 s18 s19 s20 s21 s22 s23
      go_wp2_with fail
      go_meet
      exact ⟨g,y,Fa,pb,M2,s,ic,rfl,rfl,HPb,HM2,HSO,HIC,HZb⟩
   case rest =>
    as_aux_lemma =>
     obtain ⟨g2,y2,F2,p2,M2,s2,ic2,rfl,rfl,HP2,HM2,HSO2,HIC2,HZ2⟩:=hcut
     obtain ⟨wa,rfl⟩:∃x,x=wc:=⟨_,rfl⟩
     obtain ⟨N,hN⟩:∃N,M2.waits.length=N:=⟨_,rfl⟩
     obtain ⟨Aw,cw,hw3,_,_⟩:=HP2.out.both.heads hN rfl rfl
     have hN9:M2.waits.length≤900:=by have:=HM2.out.2;omega
     have hww:((N:Int) != (N:Int))=false:=by simp
     have hss:((s2:Int) != (s2:Int))=false:=by simp
     have HSN:Hid (∀V,Ext wa V→(cQ 13 #[aD g2 0] V (.int .i64 (s2:Int)):Prop)):=qj fun V hV=>zno (HP2.out.ext hV).ld
     have HWT:Hid (∀V,Ext wa V→(cQ 16 #[aD d 0] V (.int .i64 (N:Int)):Prop)):=qj fun V hV=>by
      have:=zpN (HP2.out.ext hV).both.dk.disk
      rw [hN] at this
      exact this
     have hS0:wa.drew.cell? (aD y2 3)=some (.int .i64 (s2:Int))∧wa.drew.cell? (aD q 3)=some (.slice Aw N cw):=⟨HP2.out.rlog.cells.2.2.2,hw3⟩
     have HX:Hid (Ext wa wa.drew):=qj (Ext.refl wa).drew
     clear hw3 hN
     go_wp2_with fail
     go_region_held3 (fun w'=>w'.cell? (aD y2 3)=some (.int .i64 (s2:Int))∧w'.cell? (aD q 3)=some (.slice Aw N cw))
      (with_reducible exact hS0)
      (first
       | (go_at_call 13;((with_reducible refine (HSN.out _ HX.out).mono ?_);rintro e w6 ⟨rfl,rfl⟩))
       | (go_at_call 16;((with_reducible refine (HWT.out _ HX.out).mono ?_);rintro e w7 ⟨rfl,rfl⟩)))
     have HP3:=qj (HP2.out.ext HX.out)
     have HZ3:=qj ((KpS.ext HX.out).row HZ2.out.1 HZ2.out.2)
     clear hS0 hww hss HSN HWT HX HP2 HZ2
     generalize wa.drew=wb at *
     cases hup:M2.up with
     | false =>
      have h5:upE M2=5:=by unfold upE;rw [hup];rfl
      have hru:=zcp HP3.out.log HP3.out.both.dk.disk
      rw [h5] at hru
      have HAL1:=qj (zrs (some ⟨g2,0,none⟩) 5 (by decide) hru)
      clear h5 hru
      go_wp2_with fail
      refine HAL1.out.mono ?_
      rintro e w6 ⟨rfl,hx⟩
      have HP5:=qj (HP3.out.ext hx)
      have HZ5:=qj ((KpS.ext hx).row HZ3.out.1 HZ3.out.2)
      clear hx HAL1
      go_wp2_with fail
      refine (zlW HP5.out.rlog HP5.out.both.rd hup).mono ?_
      rintro e w7 ⟨rfl,rfl⟩
      clear hup
      have HRR:Hid (([]:List Rpt).length=0∧0≤24∧RowR w6 none []∧RowR w6 none []):=qj ⟨rfl,by omega,fun k x hk=>by simp at hk,fun k x hk=>by simp at hk⟩
      go_wp2_with fail
      refine (zjj none none 0 0 0 [] HRR.out.1 HRR.out.2.1 HRR.out.2.2.1 HRR.out.2.2.2).mono ?_
      rintro e w8 ⟨rfl,hx⟩
      have HP6:=qj (HP5.out.ext hx)
      have HZ6:=qj ((KpS.ext hx).row HZ5.out.1 HZ5.out.2)
      clear hx HRR
      have s1:w8.cell? (aD gs 1)=some (.int .i64 a.i):=(by obtain ⟨s0,s1,s2,s3,s4,s5,s6,s7,s8,s9,s10,s11,s12,s13,s14,s15,s16,s17,s18,s19,s20,s21,s22,s23⟩:=c24L HZ6.out.1;exact s1)
      go_wp2_with fail
      refine (zdy HP6.out HL.out HLS.out HSO2.out (by omega) a.i).mono ?_
      rintro e w9 ⟨rfl,hx⟩
      have HP7:=qj (HP6.out.ext hx)
      clear hx s1
      go_wp2_with fail
      refine (zdy HP7.out HL.out HLS.out HSO2.out (by omega) at_).mono ?_
      rintro e w10 ⟨rfl,hx⟩
      have HP8:=qj (HP7.out.ext hx)
      clear hx
      go_wp2_with fail
      go_roundw
      case rel=>exact ⟨k+1,g2,y2,F2,p2,M2,s2,ic2,by omega,rfl,rfl,by go_num,HP8,HM2,HSO2,HIC2⟩
      case measure=>simp [intOf];omega
     | true =>
      have HAL1:=qj (zup HP3.out.ld HL.out HLS.out HSO2.out hup (by omega))
      have HLE:=qj (zfs M2 r (s2:Int) 24)
      have HUP:=qj hup
      clear hup
      generalize hps:M2.allTo r (s2:Int) 24=ps at *
      obtain ⟨L,hLL⟩:∃L,ps.length=L:=⟨_,rfl⟩
      rw [hLL] at HAL1 HLE
      have HPS:=qj hps
      have HLL:=qj hLL
      clear hps hLL
      go_wp2_with fail
      refine HAL1.out.mono ?_
      rintro e w6 ⟨v1,rfl,ho,hx⟩
      obtain ⟨A1,c1,rfl,hr1⟩:=zjh HLL.out ho
      have HR1:=qj hr1
      have HP4:=qj (HP3.out.ext hx)
      have HZ4:=qj ((KpS.ext hx).row HZ3.out.1 HZ3.out.2)
      clear hx ho hr1 HAL1
      have hal2:=zqk HP4.out.rlog HP4.out.both.rd HSO2.out (by omega) HUP.out
      rw [HPS.out,HLL.out] at hal2
      have HAL2:=qj hal2
      clear hal2
      go_wp2_with fail
      refine HAL2.out.mono ?_
      rintro e w7 ⟨v2,rfl,ho,hx⟩
      obtain ⟨A2,c2,rfl,hr2⟩:=zjh HLL.out ho
      have HRR:=qj (And.intro HLL.out (And.intro HLE.out (And.intro (HR1.out.ext hx) hr2)))
      have HP5:=qj (HP4.out.ext hx)
      have HZ5:=qj ((KpS.ext hx).row HZ4.out.1 HZ4.out.2)
      clear hx ho hr2 HAL2 HUP HPS HLL HLE HR1
      go_wp2_with fail
      refine (zjj A1 A2 L c1 c2 ps HRR.out.1 HRR.out.2.1 HRR.out.2.2.1 HRR.out.2.2.2).mono ?_
      rintro e w8 ⟨rfl,hx⟩
      have HP6:=qj (HP5.out.ext hx)
      have HZ6:=qj ((KpS.ext hx).row HZ5.out.1 HZ5.out.2)
      clear hx HRR
      have s1:w8.cell? (aD gs 1)=some (.int .i64 a.i):=(by obtain ⟨s0,s1,s2,s3,s4,s5,s6,s7,s8,s9,s10,s11,s12,s13,s14,s15,s16,s17,s18,s19,s20,s21,s22,s23⟩:=c24L HZ6.out.1;exact s1)
      go_wp2_with fail
      refine (zdy HP6.out HL.out HLS.out HSO2.out (by omega) a.i).mono ?_
      rintro e w9 ⟨rfl,hx⟩
      have HP7:=qj (HP6.out.ext hx)
      clear hx s1
      go_wp2_with fail
      refine (zdy HP7.out HL.out HLS.out HSO2.out (by omega) at_).mono ?_
      rintro e w10 ⟨rfl,hx⟩
      have HP8:=qj (HP7.out.ext hx)
      clear hx
      go_wp2_with fail
      go_roundw
      case rel=>exact ⟨k+1,g2,y2,F2,p2,M2,s2,ic2,by omega,rfl,rfl,by go_num,HP8,HM2,HSO2,HIC2⟩
      case measure=>simp [intOf];omega
theorem walPlays_law (r inc sn:Int) (A:Option Addr) (n c:Nat) (l:List ActL) (at_:Int) (w:World) (_:(Lit.int .i64 r).wf=true) (_:(Lit.int .i64 inc).wf=true) (_:(Lit.int .i64 sn).wf=true) (hl:Ls ActL.cells 24 w w.heap.size A n c l∧∀a∈l,a.Ok w w.heap.size) (_:(Lit.int .i64 at_).wf=true) (hL:LaidF w∧LaidS w) :
 Calls Tryz.prog 3 #[r,inc,sn,.slice A n c,.int .i64 at_] w fun e w'=>e=.returned (.bool true)∧Below w.heap.size w w' :=
 zip r inc sn at_ A n c l w hl hL.1 hL.2
end Go.Proofs.YtdbpdhlecgoclaaGreatDoor
