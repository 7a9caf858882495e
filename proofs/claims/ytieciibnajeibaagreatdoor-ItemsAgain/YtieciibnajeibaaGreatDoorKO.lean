import Derived.Test.YtieciibnajeibaaGreatDoorKK
set_option maxHeartbeats 8000000
set_option maxRecDepth 100000
namespace Go.Proofs.YtieciibnajeibaaGreatDoor
open Go.RowKit Go.Maps
noncomputable def zpG(G:Gm)(cnt n:Nat)(l:List It):Int:=if clV G l=0 then if 1048576<cnt+(clR G l).length then 7 else if n=4096 then 50 else 0 else clV G l
def zd0(R0:Nat->Prop)(B0 B cb gb tb bb mb:Nat)(G:Gm)(kers sts:List (List It))(nxs:List (List Int))(cnt:Nat)(vS vN:Value)(svs nvs:List Value)(l:List It)(w:World)(e:Ending)(w':World):Prop :=
 Fr (BdF bb mb tb vS vN) w w'/\((l ∈ kers/\e=.returned (.tuple #[.int .i64 (kers.idxOf l:Nat),.int .i64 0])/\BdS R0 B0 B cb gb tb bb mb G kers sts nxs cnt vS vN svs nvs w') \/
  (l ∉ kers/\zpG G cnt sts.length l≠0/\e=.returned (.tuple #[.int .i64 0,.int .i64 (zpG G cnt sts.length l)])) \/
  (l ∉ kers/\zpG G cnt sts.length l=0/\e=.returned (.tuple #[.int .i64 (sts.length:Nat),.int .i64 0])/\∃ (R':Nat->Prop) (vS':Value) (svs':List Value),BdS R' B0 B cb gb tb bb mb G (kers ++ [l]) (sts ++ [clR G l]) nxs (cnt+(clR G l).length) vS' vN svs' nvs w'/\(∀ k,R0 k->R' k)/\(∀ k,R' k->R0 k\/w.heap.size<=k)/\(vS'.ownBlock=vS.ownBlock\/∃ k,vS'.ownBlock=some k/\w.heap.size<=k)))
theorem zpT{kers:List (List It)}{l:List It}(hk:∀ m,m ∈ kers->∀ x,x ∈ m->smI x)(hl:∀ x,x ∈ l->smI x):tbI l ∈ kers.map tbI↔l ∈ kers:=by
 constructor
 ·intro h;obtain⟨m,hm,e⟩:=List.mem_map.1 h;rw[<- zk2 (hk m hm) hl e];exact hm
 ·exact λh=>List.mem_map.2 ⟨l,h,rfl⟩
theorem zsn:∀ {kers:List (List It)} {l:List It},(∀ m,m ∈ kers->∀ x,x ∈ m->smI x)->(∀ x,x ∈ l->smI x)->l ∈ kers->Wk.posB (kers.map tbI) (tbI l)=(kers.idxOf l:Nat):=by
 intro kers l hk hl hm;unfold Wk.posB;rw[if_pos ((zpT hk hl).2 hm)]
 congr 1
 induction kers with
 | nil=>rfl
 | cons m ks ih =>
   rw[List.map_cons,List.idxOf_cons,List.idxOf_cons];by_cases e:m=l
   ·rw[e];simp
   ·have e2:¬ tbI m=tbI l:=λh=>e (zk2 (hk m (by simp)) hl h);rw[(by simpa using e:(m == l)=false),(by simpa using e2:(tbI m == tbI l)=false)];simp only[cond_false]
    rw[ih (λa ha=>hk a (by simp[ha])) (by
     rcases List.mem_cons.1 hm with h | h
     ·exact absurd h.symm e
     ·exact h)]
theorem zn2{O:Nat->Prop}{a b:World}{o:Option Nat}(h:a.grownBy b o)(hO:∀ k,o=some k->O k):Fr O a b:=⟨h.size,λk hk ho=>h.block k hk (λe=>ho (hO k e.symm)),h.os,h.tape,h.output⟩
section
variable {R:Nat->Prop} {B0 B cb gb tb bb mb:Nat} {G:Gm} {kers sts:List (List It)} {nxs:List (List Int)} {cnt:Nat} {vS vN:Value} {svs nvs:List Value} {w w':World}
theorem zbW(h:BdS R B0 B cb gb tb bb mb G kers sts nxs cnt vS vN svs nvs w):bb<w.heap.size/\mb<w.heap.size/\bb≠mb/\bb≠tb/\mb≠tb/\(∀ k,vS.ownBlock=some k->k≠bb/\k≠mb/\k≠tb/\k<w.heap.size)/\(∀ k,vN.ownBlock=some k->k≠bb/\k≠mb/\k≠tb/\k<w.heap.size)/\(∀ k,vS.ownBlock=some k->vN.ownBlock≠some k):=by
 obtain⟨hRt,tcs,htb,-⟩:=h.rt;have hS:=λk (hk:vS.ownBlock=some k)=>zaH h.rowS hk;have hN:=λk (hk:vN.ownBlock=some k)=>zaH h.rowN hk;refine⟨(zsO.1 h.box).1,zuu h.met,λe=>zbG h.met (e▸h.box),zav h.box htb (by decide),λe=>zbG h.met (e▸htb),λk hk=>?_,λk hk=>?_,λk hk hk2=>?_⟩
 ·obtain⟨-,cs,h9⟩:=hS k hk;exact⟨zav h9 h.box (by decide),λe=>zbG h.met (e▸h9),zav h9 htb (by decide),(zsO.1 h9).1⟩
 ·obtain⟨-,cs,h9⟩:=hN k hk;exact⟨zav h9 h.box (by decide),λe=>zbG h.met (e▸h9),zav h9 htb (by decide),(zsO.1 h9).1⟩
 ·obtain⟨-,cs,h9⟩:=hS k hk;obtain⟨-,cs2,h8⟩:=hN k hk2;exact zav h9 h8 (by decide) rfl
theorem zxd(h:BdS R B0 B cb gb tb bb mb G kers sts nxs cnt vS vN svs nvs w)(c:Nat):BdS R B0 B cb gb tb bb mb G kers sts nxs c vS vN svs nvs (w.setCell ⟨bb,4,none⟩ (.int .i64 (c:Int)))/\Fr (λk=>k=bb) w (w.setCell ⟨bb,4,none⟩ (.int .i64 (c:Int))):=by
 obtain⟨hbl,hml,n1,n2,n3,n4,n5,-⟩:=zbW h;have hf:Fr (λk=>k=bb) w (w.setCell ⟨bb,4,none⟩ (.int .i64 (c:Int))):=zaD (zax (λk=>k=bb) w) (p:=⟨bb,4,none⟩) rfl _;have hfR:Fr (λk=>¬ R k) w (w.setCell ⟨bb,4,none⟩ (.int .i64 (c:Int))):=zaj hf (λk _ e hR=>h.nR.1 (e▸hR));refine⟨⟨?_,zbb h.cl hfR,zbC h.rt (zaj hf (λk _ e=>⟨λhR=>h.nR.1 (e▸hR),e▸n2⟩)),λk hk=>zsJ (h.rl k hk) hf.1,zhM h.met (hf.2.1 mb hml (λe=>n1 e.symm)),h.len,zaC h.rowS hf (λk hk e=>(n4 k hk).1 e),zeb h.stS hfR,zaC h.rowN hf (λk hk e=>(n5 k hk).1 e),zef h.stN hfR,h.nS,h.nN,h.nR,h.lo.1,h.lo.2.1,h.lo.2.2.1,zsy h.lo.2.2.2 hf.1⟩,hf⟩;rw[Wk.block_set h.box _];rfl
theorem zue(h:BdS R B0 B cb gb tb bb mb G kers sts nxs cnt vS vN svs nvs w){w4 w6:World}{a:Option Addr}{c:Nat}{st l:List It}(hst:zhG R w a st)(hm:TxM w4 mb ((kers ++ [l]).map tbI))(hg4:w.grownBy w4 (some mb))(tmp:Obj){vS':Value}(hr:w6.ownsRow B0 27 1 vS' (sts.length+1) (svs ++ [.slice a st.length c]))(hg6:(w4.alloc tmp).grownBy w6 vS.ownBlock)(hv:vS'.ownBlock=vS.ownBlock\/vS'.ownBlock=some (w4.alloc tmp).heap.size) :
 BdS R B0 B cb gb tb bb mb G (kers ++ [l]) (sts ++ [st]) nxs cnt vS' vN (svs ++ [.slice a st.length c]) nvs (w6.setCell ⟨bb,1,none⟩ vS')/\Fr (BdF bb mb tb vS vN) w (w6.setCell ⟨bb,1,none⟩ vS'):=by
 obtain⟨hbl,hml,n1,n2,n3,n4,n5,n6⟩:=zbW h;have hs4:=hg4.size;have hb5:Below w4.heap.size w4 (w4.alloc tmp):=(zsY _ _).alloc (zsG _) _;have hs5:=hb5.size;have hs6:=hg6.size;have hf6:Fr (λk=>k=mb\/vS.ownBlock=some k) w w6:=by
  exact zcK (zn2 hg4 (λk e=>.inl (by simpa using e.symm))) (zcK (zae hb5) (zn2 hg6 (λk e=>.inr e)))
 have hf:Fr (λk=>k=bb\/k=mb\/vS.ownBlock=some k) w (w6.setCell ⟨bb,1,none⟩ vS'):=zaD (zaj hf6 (λ_ _ h=>.inr h)) (.inl rfl) _
 have hfR:Fr (λk=>¬ R k) w (w6.setCell ⟨bb,1,none⟩ vS'):=zaj hf (λk _ e hR=>by
  rcases e with e | e | e
  ·exact h.nR.1 (e▸hR)
  ·exact h.nR.2 (e▸hR)
  ·exact h.nS k e hR)
 have hnt:∀ k,(k=bb\/k=mb\/vS.ownBlock=some k)->k≠tb:=λk e=>by
  rcases e with e | e | e
  ·exact e▸n2
  ·exact e▸n3
  ·exact(n4 k e).2.2.1
 have hSb:∀ k,vS'.ownBlock=some k->k≠bb:=λk hk=>by
  rcases hv with e | e
  ·exact(n4 k (e▸hk)).1
  ·rw[e] at hk;cases hk;omega
 refine⟨⟨?_,zbb h.cl hfR,zbC h.rt (zaj hf (λk hk e=>⟨λhR=>?_,hnt k e⟩)),λk hk=>zsJ (h.rl k hk) hf.1,zhM hm ?_,by simp[h.len],?_,znu (zeb h.stS hfR) (zi5 hst hfR),zaC h.rowN hf (λk hk e=>?_),zef h.stN hfR,λk hk hR=>?_,h.nN,h.nR,h.lo.1,h.lo.2.1,h.lo.2.2.1,zsy h.lo.2.2.2 hf.1⟩,zaj hf (λk _ e=>?_)⟩
 ·have hbx6:w6.heap[bb]? = _:=(hf6.2.1 bb hbl (λe=>e.elim n1 (λe=>(n4 bb e).1 rfl))).trans h.box;rw[Wk.block_set hbx6 _];rfl
 ·rcases e with e | e | e
  ·exact h.nR.1 (e▸hR)
  ·exact h.nR.2 (e▸hR)
  ·exact h.nS k e hR
 ·have e1:(w6.setCell ⟨bb,1,none⟩ vS').heap[mb]? = w6.heap[mb]?:=(zaD (zax (λk=>k=bb) w6) (p:=⟨bb,1,none⟩) rfl vS').2.1 mb (by omega) (λe=>n1 e.symm);have e2:w6.heap[mb]? = (w4.alloc tmp).heap[mb]?:=hg6.block mb (by omega) (λe=>(n4 mb e.symm).2.1 rfl);exact e1.trans (e2.trans (hb5.block mb (by omega)))
 ·rw[zsI];exact zaC hr (zaD (zax (λk=>k=bb) w6) (p:=⟨bb,1,none⟩) rfl vS') (λk hk e=>hSb k hk e)
 ·rcases e with e | e | e
  ·exact(n5 k hk).1 e
  ·exact(n5 k hk).2.1 e
  ·exact n6 k e hk
 ·rcases hv with e | e
  ·exact h.nS k (e▸hk) hR
  ·rw[e] at hk;cases hk;have:=h.rl _ hR;omega
 ·rcases e with e | e | e
  ·exact .inr (.inl e)
  ·exact .inr (.inr (.inl e))
  ·exact .inr (.inr (.inr (.inl e)))
end
theorem zrl{R R':Nat->Prop}{B0 B cb gb tb bb mb:Nat}{G:Gm}{kers sts:List (List It)}{nxs:List (List Int)}{cnt:Nat}{vS vN:Value}{svs nvs:List Value}{w1 w2:World}(h1:BdS R B0 B cb gb tb bb mb G kers sts nxs cnt vS vN svs nvs w1)(h2:BdS R' B0 B cb gb tb bb mb G kers sts nxs cnt vS vN svs nvs w2){a:Option Addr}{c:Nat}{st:List It}(ho:w2.ownsRow w1.heap.size 57 3 (.slice a st.length c) st.length (zaE st)) :
 ∃ R'':Nat->Prop,BdS R'' B0 B cb gb tb bb mb G kers sts nxs cnt vS vN svs nvs w2/\(∀ k,R' k->R'' k)/\(∀ k,R'' k->R' k\/w1.heap.size<=k)/\zhG R'' w2 a st:=by
 obtain⟨hbl,hml,-,-,-,n4,n5,-⟩:=zbW h1;have htl:tb<w1.heap.size:=by
  obtain⟨_,tcs,htb,-⟩:=h1.rt;exact(zsO.1 htb).1
 by_cases hst:st=[]
 ·exact⟨R',h2,λ_ h=>h,λ_ h=>.inl h,.inl hst⟩
 ·rcases za4 ho with h9 | ⟨b,off,e,hb,hc⟩
  ·exact absurd h9 hst
  ·have hbg:w1.heap.size<=b:=by
    rcases ho.2 with ⟨e9,h0⟩ | ⟨g,cap,cur,e9,hg,-⟩
    ·exact absurd (zsX h0) hst
    ·rw[e] at e9;have e9:=(Value.slice.inj e9).1;simp at e9;omega
   exact⟨λk=>R' k\/k=b,zrm h2 hb (by omega) (by omega) (by omega) (λhk=>by have:=(n4 b hk).2.2.2;omega) (λhk=>by have:=(n5 b hk).2.2.2;omega),λ_ h=>.inl h,λk h=>h.imp id (λe=>by omega),.inr ⟨b,off,e,.inr rfl,hc⟩⟩
theorem zwd:(Tryz.prog.info? 27).map (λi=>(i.zero,i.size,i.bytes))=some (some (.slice none 0 0),1,24):=by kernel_rfl
theorem zhZ(R:Nat->Prop)(B0 B cb gb tb bb mb:Nat)(G:Gm)(hG:GOk G)(kers sts:List (List It))(nxs:List (List Int))(cnt:Nat)(hcnt:cnt<=1048576)(hsl:sts.length<=4096)(hks:∀ m,m ∈ kers->∀ x,x ∈ m->zcv G x=true)(vS vN:Value)(svs nvs:List Value)(w:World)(h:BdS R B0 B cb gb tb bb mb G kers sts nxs cnt vS vN svs nvs w)(htab:Tb w.heap.size w)(ia:Option Addr)(ic:Nat)(l:List It)(hl:l.length<=1000000000)(hit:∀ x,x ∈ l->zcv G x=true)(hi:zcy w.heap.size w ia l)(hia:∀ x,ia=some x->x.block≠tb) :
 Calls Tryz.prog 87 #[.pointer (some ⟨bb,0,none⟩),.slice ia l.length ic] w λe w'=>zd0 R B0 B cb gb tb bb mb G kers sts nxs cnt vS vN svs nvs l w e w':=by
 have hsI:∀ x,zcv G x=true->smI x:=λx hx=>by
  obtain⟨e1,e2,e3,e4,e5,e6⟩:=of_decide_eq_true hx;have h1:=zcu hG e1 e2;have h2:=hG.ps;have h3:=hG.k3;unfold Gm.nk at h3;exact⟨⟨e1,by omega⟩,⟨e3,by omega⟩,⟨e5,by omega⟩⟩
 have hsm:=λx hx=>hsI x (hit x hx);have hksm:=λm hm x hx=>hsI x (hks m hm x hx);have HT:=zaa (znt ia ic l hl hsm w hi);rw[zvf] at HT;have hts:(tbI l).length<=maxLen:=by rw[zgE];unfold maxLen;omega
 have HMm:=zaa (zpT hksm hsm);have HPm:=zaa (zsn hksm hsm);obtain⟨S,hS⟩:∃ S,S=tbI l:=⟨_,rfl⟩;rw[<- hS] at HT hts HMm HPm;obtain⟨sa,sc,rfl⟩:=zaf h.rowS;have HS:=zaa hS;have Hh:=zaa h;have Htab:=zaa htab;have Hi:=zaa hi;have Hit:=zaa hit;have Hia:=zaa hia;clear hS h htab hi hsm hksm hsI hks hit hia;go_enter Tryz.func87,Tryz.ntmps87;go_wp2_with fail;refine(uh HT).mono ?_;rintro e w1 ⟨rfl,hb1⟩;have h1:=zfu (uh Hh) hb1;have c0:=zac h1.box 0 rfl;have c3:=zac h1.box 3 rfl;have hlk:=zrT h1.met S hts;have H1:=zaa h1;have Hb1:=zaa hb1;clear h1 hb1;by_cases hin:S ∈ kers.map tbI
 ·have hin2:=(uh HMm).1 hin;rw[decide_eq_true hin,uh HPm hin2] at hlk;have Hf:Hid (zd0 R B0 B cb gb tb bb mb G kers sts nxs cnt (.slice sa sts.length sc) vN svs nvs l w (.returned (.tuple #[.int .i64 (kers.idxOf l:Nat),.int .i64 0])) w1):=zaa ⟨zae (uh Hb1),.inl ⟨hin2,rfl,uh H1⟩⟩;clear hin hin2;generalize kers.idxOf l=N at *;go_wp2;refine bodyPost_ret (v:=.tuple #[.int .i64 (N:Nat),.int .i64 0]) ?zz1 rfl (uh Hf)
  case zz1=>simp[results,Tryz.results87,go_sem]
 ·have hin2:l ∉ kers:=λh=>hin ((uh HMm).2 h);rw[decide_eq_false hin] at hlk;have hs1:=(uh Hb1).size;have HC:=zaa (zeS R B cb gb tb G hG w1 (uh H1).cl (uh H1).rt (uh H1).rl (zdz (uh Htab) (zsG _) (uh Hb1)) ia ic l hl (uh Hit) (zaI (zaw (uh Hb1) (uh Hi)) hs1) (uh Hia));have Hin2:=zaa hin2;clear hin hin2 HPm Htab Hi Hit Hia;go_wp2_with fail;refine(uh HC).mono ?_;rintro e w2 ⟨a2,c2,rfl,hown2,hf2,R',hcl2,hrt2,hR1,hR2,hR3⟩;have h2:=zuT (uh H1) hf2 hcl2 hrt2 hR1 hR2 hR3;have Hfr:Hid (Fr (BdF bb mb tb (.slice sa sts.length sc) vN) w w2):=zaa (zcK (zae (uh Hb1)) (zaj hf2 (λk _ e=>.inl e)));have Hown2:=zaa hown2;have H2:=zaa h2;have HR:=zaa (And.intro hR1 hR2);clear hown2 hf2 hcl2 hrt2 hR1 hR2 hR3 h2 HC hlk c0 c3;by_cases hv:clV G l=0
  · obtain ⟨R'', h3, g1, g2, hrow⟩ := zrl (uh H1) (uh H2) (uh Hown2);have hsb:(clR G l).length<=65536:=by
      unfold clR;unfold clV at hv
      split at hv
      · rename_i h9;rw[if_pos h9];exact h9
      · cases hv
    have Hnv:Hid (zpG G cnt sts.length l=if 1048576<cnt+(clR G l).length then 7 else if sts.length=4096 then 50 else 0):=zaa (if_pos hv);rw[hv];obtain⟨hbl,hml,-⟩:=zbW h3;have c0:=zac h3.box 0 rfl;have c4:=zac h3.box 4 rfl;have z4:=Wk.frozen_block h3.box 4;have hcs:=zxd h3 (cnt+(clR G l).length);rw[Int.natCast_add] at hcs;have Hcs:=zaa hcs;have Hrow:=zaa hrow;have HRR:=zaa (And.intro g1 g2);obtain⟨st,hst⟩:∃ st,st=clR G l:=⟨_,rfl⟩;rw[<- hst] at Hnv Hcs Hrow hsb;have Hst:=zaa hst;rw[<- hst];have hw:IntKind.i64.wrap ((cnt:Int)+(st.length:Int))=(cnt:Int)+(st.length:Int):=by rw[IntKind.wrap_i64];omega
    clear hst hcs hrow g1 g2 h3 H2 Hown2 hv;have e0:=zac (uh Hcs).1.box 0 rfl;have e1:=zac (uh Hcs).1.box 1 rfl;have e3:=zac (uh Hcs).1.box 3 rfl;by_cases hbig:1048576<cnt+st.length
    · have hbI:(1048576:Int)<(cnt:Int)+(st.length:Int):=by omega
      have Hf:Hid (zd0 R B0 B cb gb tb bb mb G kers sts nxs cnt (.slice sa sts.length sc) vN svs nvs l w (.returned (.tuple #[.int .i64 0,.int .i64 7])) (w2.setCell ⟨bb,4,none⟩ (.int .i64 ((cnt:Int)+(st.length:Int))))):=zaa (by
        have e9:=uh Hnv;rw[if_pos hbig] at e9
        exact⟨zcK (uh Hfr) (zaj (uh Hcs).2 (λk _ e=>.inr (.inl e))),.inr (.inl ⟨uh Hin2,by rw[e9];decide,by rw[e9]⟩)⟩)
      clear e0 e1 e3;go_wp2;refine bodyPost_ret (v:=.tuple #[.int .i64 0,.int .i64 7]) ?zz3 rfl (uh Hf)
      case zz3=>simp[results,Tryz.results87,go_sem]
    · have hbI:¬ (1048576:Int)<(cnt:Int)+(st.length:Int):=by omega
      by_cases hfull:sts.length=4096
      · have hfI:(((sts.length:Nat):Int) == 4096)=true:=by rw[hfull];rfl
        have Hf:Hid (zd0 R B0 B cb gb tb bb mb G kers sts nxs cnt (.slice sa sts.length sc) vN svs nvs l w (.returned (.tuple #[.int .i64 0,.int .i64 50])) (w2.setCell ⟨bb,4,none⟩ (.int .i64 ((cnt:Int)+(st.length:Int))))):=zaa (by
          have e9:=uh Hnv;rw[if_neg hbig,if_pos hfull] at e9
          exact⟨zcK (uh Hfr) (zaj (uh Hcs).2 (λk _ e=>.inr (.inl e))),.inr (.inl ⟨uh Hin2,by rw[e9];decide,by rw[e9]⟩)⟩)
        go_wp2;refine bodyPost_ret (v:=.tuple #[.int .i64 0,.int .i64 50]) ?zz4 rfl (uh Hf)
        case zz4=>simp[results,Tryz.results87,go_sem]
      · have hfI:(((sts.length:Nat):Int) == 4096)=false:=by simpa using (by omega:¬ ((sts.length:Nat):Int)=4096)
        have hcs:=uh Hcs;have hkl:(kers.map tbI).length=sts.length:=by rw[List.length_map,hcs.1.len]
        obtain⟨W4,hput,hm4,hg4⟩:=zu8 hcs.1.met (by rw[hkl];omega) S hts (λh=>uh Hin2 ((uh HMm).1 h));rw[hkl] at hput;obtain⟨hbl3,hml3,n1,n2,n3,n4,n5,n6⟩:=zbW hcs.1;have hbx4:=(hg4.block bb hbl3 (λe=>n1 (by simpa using e))).trans hcs.1.box;have e4:=zac hbx4 1 rfl;have hrS4:W4.ownsRow B0 27 1 (.slice sa sts.length sc) sts.length svs:=hcs.1.rowS.kept hg4 (.inr (λe=>(n4 mb (by simpa using e)).2.1 rfl));obtain⟨i0,hi0,hz0,hz1,hz2⟩:=zah zwd;have hs4:=hg4.size;have hlo:=hcs.1.lo.2.2.2;have HrS4:=zaa hrS4;have Hbx4:=zaa hbx4;have Hm4:=zaa hm4;have Hg4:=zaa hg4;have Hcs:=zaa hcs;have Hn:=zaa n4;clear hrS4 hbx4 hm4 hg4 hcs n4 n5 n6 n2 n3;go_wp2_with (at_builtin;refine wpList_append_own_at _ rfl _ _ 42 rfl B0 27 i0 (.slice none 0 0) 1 24 Tryz.underlying42 hi0 hz0 hz1 hz2 rfl (by decide) _ sts.length svs rfl ((uh HrS4).alloc (.cells #[.slice a2 st.length c2] 27)) ⟨W4.heap.size,0,none⟩ 1 1 [.slice a2 st.length c2] rfl rfl ?qc2 ?qc3 ?qc4 ?qc5 ?qc6 ?_)
        case qc2=>intro i u hi;exact World.news_of_block (zsH W4 _) i u hi
        case qc3=>intro u hu;simp at hu;rw[hu];rfl
        case qc4=>unfold maxLen;omega
        case qc5=>omega
        case qc6=>simp at hlo hs4 ⊢;omega
        intro v' w6 hown6 hg6 hnil6 hat6;obtain⟨va,vc,rfl⟩:=zaf hown6;have hbW:bb<W4.heap.size:=by have:=hs4;omega
        have hbx6:=(hg6.block bb (by simp;omega) (λe=>(uh Hn bb e.symm).1 rfl)).trans ((zsZ W4 _ _ hbW).trans (uh Hbx4));have e6:=zac hbx6 1 rfl;have z6:=Wk.frozen_block hbx6 1;have hp:=zue (uh Hcs).1 (l:=l) (zi5 (uh Hrow) (zaj (uh Hcs).2 (λk _ e hR=>(uh Hcs).1.nR.1 (e▸hR)))) (by rw[List.map_append,List.map_cons,List.map_nil,<- uh HS];exact uh Hm4) (uh Hg4) (.cells #[.slice a2 st.length c2] 27) hown6 hg6 (by simpa using hat6)
        have Hf:Hid (zd0 R B0 B cb gb tb bb mb G kers sts nxs cnt (.slice sa sts.length sc) vN svs nvs l w (.returned (.tuple #[.int .i64 (sts.length:Nat),.int .i64 0])) (w6.setCell ⟨bb,1,none⟩ (.slice va (sts.length+1) vc))):=zaa (by
          have e9:=uh Hnv;rw[if_neg hbig,if_neg hfull] at e9;obtain⟨r1,r2⟩:=uh HR;obtain⟨q1,q2⟩:=uh HRR;refine⟨zcK (zcK (uh Hfr) (zaj (uh Hcs).2 (λk _ e=>.inr (.inl e)))) hp.2,.inr (.inr ⟨uh Hin2,e9,rfl,R'',.slice va (sts.length+1) vc,svs ++ [.slice a2 st.length c2],?_,λk hk=>q1 k (r1 k hk),λk hk=>?_,?_⟩)⟩
          · have:=hp.1;rw[uh Hst] at this;rw[uh Hst];exact this
          · rcases q2 k hk with h9 | h9
            · rcases r2 k h9 with h8 | h8
              · exact .inl h8
              · exact .inr (by omega)
            · exact .inr (by omega)
          · rcases hat6 with h9 | h9
            · exact .inl h9
            · refine .inr ⟨_,h9,?_⟩;have:=(uh Hfr).1;simp at hs4
              omega)
        clear hbx6 hp hown6 hg6 hnil6 hat6 Hcs Hn Hg4 Hm4 Hbx4 HrS4;go_wp2;refine bodyPost_ret (v:=.tuple #[.int .i64 (sts.length:Nat),.int .i64 0]) ?zz5 rfl (uh Hf)
        case zz5=>simp[results,Tryz.results87,go_sem]
  · have Hf:Hid (zd0 R B0 B cb gb tb bb mb G kers sts nxs cnt (.slice sa sts.length sc) vN svs nvs l w (.returned (.tuple #[.int .i64 0,.int .i64 (clV G l)])) w2):=zaa (by
      have e9:zpG G cnt sts.length l=clV G l:=if_neg hv
      exact⟨uh Hfr,.inr (.inl ⟨uh Hin2,by rw[e9];exact hv,by rw[e9]⟩)⟩)
    have hv':(clV G l != 0)=true:=by simpa using hv
    clear H2 Hown2;generalize clR G l=st at *;generalize clV G l=V at *;go_wp2;refine bodyPost_ret (v:=.tuple #[.int .i64 0,.int .i64 V]) ?zz2 rfl (uh Hf)
    case zz2=>simp[results,Tryz.results87,go_sem]
structure StI (B:Nat) (G:Gm) (L:List It) (A:Nat->Sl) (w:World):Prop where
 row:∀ y,w.ownsRow B 57 3 (slV (A y)) (zcb G L y).length (zaE (zcb G L y))
 non:∀ y,A y=none↔zcb G L y=[]
 ap:∀ y z g,y≠z->(slV (A y)).ownBlock=some g->(slV (A z)).ownBlock≠some g
theorem zvh(B:Nat)(G:Gm)(w:World):StI B G [] (λ_=>none) w:=⟨λ_=>World.ownsRow_nil _ _ _ _,λ_=>⟨λ_=>rfl,λ_=>rfl⟩,λ_ _ _ _ h=>by simp[slV,Value.ownBlock] at h⟩
theorem zhQ{B:Nat}{G:Gm}{L:List It}{A:Nat->Sl}{w w':World}{O:Nat->Prop}(h:StI B G L A w)(hf:Fr O w w')(hO:∀ y k,(slV (A y)).ownBlock=some k->¬ O k):StI B G L A w' :=
 ⟨λy=>zaC (h.row y) hf (hO y),h.non,h.ap⟩
theorem zr4{B:Nat}{G:Gm}{L:List It}{A:Nat->Sl}{w:World}{x:It}(h:StI B G L A w)(hx:∀ y:Nat,zdh G x≠some (y:Int)):StI B G (L ++ [x]) A w:=by
 have e:∀ y,zcb G (L ++ [x]) y=zcb G L y:=λy=>by rw[zdM,if_neg (hx y)]
 exact⟨λy=>by rw[e];exact h.row y,λy=>by rw[e];exact h.non y,h.ap⟩
theorem zr3{B:Nat}{G:Gm}{L:List It}{A:Nat->Sl}{w W5 w6 w7:World}{x:It}{y mb:Nat}(h:StI B G L A w)(hx:zdh G x=some (y:Int))  (hm:∀ {cs:Array Value} {t:TypeId} {f:Nat × Nat},w.heap[mb]?≠some (.cells cs t f)) (hml:mb<w.heap.size) (hb:Below w.heap.size w W5) {g c:Nat}
 (hr:w6.ownsRow B 57 3 (slV (some (g,(zcb G L y).length+1,c))) ((zcb G L y).length+1) (zaE (zcb G L y) ++ [.int .i64 x.1,.int .i64 (x.2.1+1),.int .i64 x.2.2])) (hg6:W5.grownBy w6 (slV (A y)).ownBlock) (hloc:(slV (some (g,(zcb G L y).length+1,c))).ownBlock=(slV (A y)).ownBlock\/(slV (some (g,(zcb G L y).length+1,c))).ownBlock=some W5.heap.size) (hg7:w6.grownBy w7 (some mb)) :
 StI B G (L ++ [x]) (λr=>if r=y then some (g,(zcb G L y).length+1,c) else A r) w7:=by
 have hs5:=hb.size;have hs6:=hg6.size;have hblk:∀ z k,(slV (A z)).ownBlock=some k->k<w.heap.size/\k≠mb:=λz k hk=>by
  obtain⟨-,cs,h9⟩:=zaH (h.row z) hk;exact⟨(zsO.1 h9).1,λe=>hm (e▸h9)⟩
 have hgm:g≠mb:=by
  rcases hloc with e | e
  ·exact(hblk y g (by rw[<- e];rfl)).2
  ·have:g=W5.heap.size:=by simpa [slV,Value.ownBlock] using e
   omega
 have hf7:Fr (λk=>k=mb) w6 w7:=zn2 hg7 (λk e=>by simpa using e.symm);refine⟨λz=>?_,λz=>?_,λz z' k hz hk hk'=>?_⟩
 ·by_cases e:z=y
  ·subst e;rw[if_pos rfl,zdM,if_pos hx,zsI,zcg]
   exact zaC hr hf7 (λk hk e=>by
    have:g=k:=by simpa [slV,Value.ownBlock] using hk
    exact hgm (this.trans e))
  ·rw[if_neg e,zdM,if_neg (λh9=>e (by rw[hx] at h9;simp at h9;omega))];have h5:=zaC (h.row z) (zae (O:=λ_=>False) hb) (λ_ _ h=>h);have h6:=zaC h5 (zn2 (O:=λk=>(slV (A y)).ownBlock=some k) hg6 (λk e=>e)) (λk hk=>h.ap z y k e hk);exact zaC h6 hf7 (λk hk=>(hblk z k hk).2)
 ·by_cases e:z=y
  ·subst e;rw[if_pos rfl,zdM,if_pos hx];simp
  ·rw[if_neg e,zdM,if_neg (λh9=>e (by rw[hx] at h9;simp at h9;omega))];exact h.non z
 ·have hgk:∀ k,(slV (some (g,(zcb G L y).length+1,c))).ownBlock=some k->k=g:=λk hk=>by
   have:g=k:=by simpa [slV,Value.ownBlock] using hk
   exact this.symm
  have hgz:∀ z,z≠y->(slV (A z)).ownBlock≠some g:=λz hz hk=>by
   rcases hloc with e | e
   ·exact h.ap z y g hz hk (by rw[<- e];rfl)
   ·have e9:g=W5.heap.size:=by simpa [slV,Value.ownBlock] using e
    have:=(hblk z g hk).1;omega
  by_cases e:z=y
  ·rw[if_pos e] at hk;rw[if_neg (λh9=>hz (e.trans h9.symm))] at hk';exact hgz z' (λh9=>hz (e.trans h9.symm)) (hgk k hk▸hk')
  ·rw[if_neg e] at hk;by_cases e':z'=y
   ·rw[if_pos e'] at hk';exact hgz z e (hgk k hk'▸hk)
   ·rw[if_neg e'] at hk';exact h.ap z z' k hz hk hk'
def zkK(G:Gm)(l:List It)(w:World)(e:Ending)(w':World):Prop :=
 ∃ mb n A,e=.returned (.map (some mb))/\w.heap.size<=mb/\MpI w' mb n A/\n<=l.length/\StI w.heap.size G l A w'/\Below w.heap.size w w'
theorem zjG(B gb:Nat)(G:Gm)(hG:GOk G)(a:Option Addr)(c:Nat)(l:List It)(hl:l.length<=1000000000)(hit:∀ x,x ∈ l->zcv G x=true)(w:World)(hB:B<=w.heap.size)(hg:GmB B w gb G)(h:zcy w.heap.size w a l) :
 Calls Tryz.prog 41 #[.pointer (some ⟨gb,0,none⟩),.slice a l.length c] w λe w'=>zkK G l w e w':=by
 obtain⟨i0,hi0,hz0,hz1,hz2⟩:=zah zh6;have hgl:gb<w.heap.size:=by
  obtain⟨ka,kc,pa,pc,ra,rc,qa,qc,wa,wc,hlt,-⟩:=hg;omega
 have Hg:=zaa hg;have H:=zaa h;have Hit:=zaa hit;clear hg h hit;have qk:=λw:World=>run_makeMap (P:=Tryz.prog) 78 w;go_enter Tryz.func41,Tryz.ntmps41;go_wp2_with fail
 go_loopw [13] (λx wr=>∃ (j n:Nat) (A:Nat->Sl),x=.int .i64 (j:Int)/\j<=l.length/\MpI wr w.heap.size n A/\n<=j/\StI w.heap.size G (l.take j) A wr/\Below w.heap.size w wr) (λx _=>l.length - (intOf x).toNat)
 case atStart=>exact⟨0,0,_,rfl,zsK _,zvU w,zsG _,by rw[List.take_zero];exact zvh _ _ _,(zsY _ _).alloc (zsG _) _⟩
 case round =>
  obtain⟨j,n,A,rfl,hj,hmp,hn,hst,hb⟩:=hrel;have hsz:=hb.size;by_cases hjl:j<l.length
  ·have hjlI:(j:Int)<(l.length:Int):=by omega
   obtain⟨b,off,rfl,hbB,x0,x1,x2⟩:=zby (zaw hb (uh H)) hjl;have hxi:=uh Hit _ (zbR hjl);have htk:l.take (j+1)=l.take j ++ [l.getD j it0]:=by
    rw[zsU,zsF hjl,zsE,zsF hjl];rfl
   have Htk:=zaa htk;clear htk;generalize l.getD j it0=x at *;obtain⟨xp,xd,xk⟩:=x;obtain⟨e1,e2,e3,e4,e5,e6⟩:=of_decide_eq_true hxi;simp only at x0 x1 x2 e1 e2 e3 e4 e5 e6;obtain⟨p,rfl⟩:∃ p:Nat,xp=p:=⟨xp.toNat,by omega⟩;obtain⟨d,rfl⟩:∃ d:Nat,xd=d:=⟨xd.toNat,by omega⟩;have hR:Hid (∀ W:World,Below w.heap.size w W->Calls Tryz.prog 82 #[.pointer (some ⟨gb,0,none⟩),.int .i64 (p:Int)] W λe w'=>∃ a c,e=.returned (.slice a (zas G p).length c)/\NRow B W a (zas G p)/\(zas G p).length<=c/\W=w'):=zaa (λW hbW=>zjP B gb G hG p (by omega) W (zaX (zab hbW hB) (uh Hg)));have Hmp:=zaa hmp;have Hst:=zaa hst;have Hb:=zaa hb;have Hxi:=zaa hxi;clear hmp hst hb hxi;go_wp2_with fail;obtain⟨W1,hW1⟩:∃ W1,W1=wr.alloc (.cells #[.int .i64 (p:Int),.int .i64 (d:Int),.int .i64 xk] 57):=⟨_,rfl⟩;have hb1:Below wr.heap.size wr W1:=by rw[hW1];exact(zsY _ _).alloc (zsG _) _
   have hx1:W1.heap[wr.heap.size]? = some (.cells #[.int .i64 (p:Int),.int .i64 (d:Int),.int .i64 xk] 57 (0,0)):=by rw[hW1];exact zsH _ _
   have hlt1:wr.heap.size<W1.heap.size:=(zsO.1 hx1).1;rw[<- hW1];refine(uh hR W1 ((uh Hb).trans (zab hb1 hsz))).mono ?_;rintro e W9 ⟨ra,rc,rfl,hnr,hrc,rfl⟩;have y0:=zac hx1 0 rfl;have y1:=zac hx1 1 rfl;have y2:=zac hx1 2 rfl;have z1:=Wk.frozen_block hx1 1;have Hb1:=zaa hb1;have Hx1:=zaa hx1;clear hW1 hb1 hx1 hR;have hrl:=zcu hG e1 e2;have hmbl:w.heap.size<wr.heap.size:=zj7 (uh Hmp);by_cases hd:d<(zas G p).length
   ·have hdI:(d:Int)<((zas G p).length:Int):=by omega
    obtain⟨rb,roff,rfl,hrb,q0⟩:=zbf hnr hd;have hsy0:=zbe hG e1 e2 ((zas G p).getD d 0) (by rw[zsE,zsF hd];exact List.getElem_mem hd);obtain⟨y,hy⟩:∃ y:Nat,(zas G p).getD d 0=(y:Int):=⟨((zas G p).getD d 0).toNat,by omega⟩;have hsym:zdh G ((p:Int),(d:Int),xk)=some (y:Int):=by
     unfold zdh;rw[<- hy,zsE];simp only[zsS];rw[zsF hd];rfl
    rw[hy] at q0 hsy0;have Hsym:=zaa hsym;clear hsym hnr hy;have hwd:IntKind.i64.wrap ((d:Int)+1)=(d:Int)+1:=by rw[IntKind.wrap_i64];omega
    have hx2:(W1.setCell ⟨wr.heap.size,1,none⟩ (.int .i64 ((d:Int)+1))).heap[wr.heap.size]? = some (.cells #[.int .i64 (p:Int),.int .i64 ((d:Int)+1),.int .i64 xk] 57 (0,0)):=by rw[Wk.block_set (uh Hx1) _];rfl
    have hb2:Below wr.heap.size wr (W1.setCell ⟨wr.heap.size,1,none⟩ (.int .i64 ((d:Int)+1))):=(uh Hb1).setCell (p:=⟨wr.heap.size,1,none⟩) (zsG _) _;have u0:=zac hx2 0 rfl;have u1:=zac hx2 1 rfl;have u2:=zac hx2 2 rfl;have hlt2:wr.heap.size<(W1.setCell ⟨wr.heap.size,1,none⟩ (.int .i64 ((d:Int)+1))).heap.size:=(zsO.1 hx2).1;have hmp2:=zgU (uh Hmp) (hb2.block _ hmbl);have hst2:=zhQ (O:=λ_=>False) (uh Hst) (zae hb2) (λ_ _ _ h=>h);have hgr:=hG.k3;have hgr2:=hG.r2;have hy48:y<=1048576:=by unfold Gm.nk at hgr;unfold Gm.nr at hgr2;omega
    have hlk:=ziR hmp2 y hy48;obtain⟨va,vc,hva⟩:=zaf (hst2.row y);have hrow:=hst2.row y;have hml:=ziS G (l.take j) y;have htl:(l.take j).length<=j:=by rw[zsV];omega
    obtain⟨n1,hn1⟩:∃ n1,n1=(zcb G (l.take j) y).length:=⟨_,rfl⟩;rw[<- hn1] at hva hrow hml;rw[hva] at hlk hrow;have hn1j:n1+1<=1000000001:=by omega
    have Hrow:=zaa hrow;have Hva:=zaa hva;have Hn1:=zaa hn1;have Hmp2:=zaa hmp2;have Hst2:=zaa hst2;have Hb2:=zaa hb2;have Hx2:=zaa hx2;clear hrow hva hn1 hmp2 hst2 hb2 hx2;go_wp2_with (at_builtin;refine wpList_append_own_at _ rfl _ _ 27 rfl w.heap.size 57 i0 (.agg #[.int .i64 0,.int .i64 0,.int .i64 0]) 3 24 Tryz.underlying27 hi0 hz0 hz1 hz2 rfl (by decide) _ n1 (zaE (zcb G (l.take j) y)) rfl ((uh Hrow).alloc _) ⟨W1.heap.size,0,none⟩ 1 1 [.int .i64 (p:Int),.int .i64 ((d:Int)+1),.int .i64 xk] rfl rfl ?qc2 ?qc3 ?qc4 ?qc5 ?qc6 ?_)
    case qc2=>intro i u hi;exact World.news_of_block (by simpa using zsH (W1.setCell ⟨wr.heap.size,1,none⟩ (.int .i64 ((d:Int)+1))) (.cells #[.int .i64 (p:Int),.int .i64 ((d:Int)+1),.int .i64 xk] 57)) i u hi
    case qc3=>intro u hu;simp at hu;rcases hu with rfl | rfl | rfl <;> rfl
    case qc4=>unfold maxLen;omega
    case qc5=>omega
    case qc6=>simp;omega
    intro v' w6 hown6 hg6 hnil6 hat6;obtain⟨g',cap',rfl⟩:=ownsRow_succ hown6;have hb5:Below wr.heap.size wr ((W1.setCell ⟨wr.heap.size,1,none⟩ (.int .i64 ((d:Int)+1))).alloc (.cells #[.int .i64 (p:Int),.int .i64 ((d:Int)+1),.int .i64 xk] 57)):=(uh Hb2).alloc (by omega) _;have hmpn:(slV (A y)).ownBlock≠some w.heap.size:=λe=>by
     obtain⟨-,cs,h9⟩:=zaH ((uh Hst).row y) e;exact zbq (uh Hmp) h9
    have hmp6:MpI w6 w.heap.size n A:=zgU (uh Hmp) ((hg6.block w.heap.size (by have:=hb5.size;omega) (λe=>hmpn (by rw[uh Hva];exact e.symm))).trans (hb5.block _ hmbl));obtain⟨w7,hput,hmp7,hg7⟩:=zvT hmp6 (by unfold maxLen;omega) y hy48 (g',n1+1,cap');have hput2:(Instr.mapUpdate 78 (.map (some w.heap.size)) (.int .i64 (y:Int)) (.slice (some ⟨g',0,none⟩) (n1+1) cap')).run Tryz.prog w6=.ok () w7:=hput
    have Hst7:Hid (StI w.heap.size G (l.take (j+1)) (λr=>if r=y then some (g',n1+1,cap') else A r) w7):=zaa (by
     rw[uh Htk];have:=zr3 (uh Hst) (uh Hsym) (mb:=w.heap.size) (fun {_ _ _} => zbq (uh Hmp)) hmbl hb5 (g:=g') (c:=cap') (w6:=w6) (w7:=w7);rw[<- uh Hn1,uh Hva] at this
     exact this hown6 hg6 (by show (Value.slice (some ⟨g',0,none⟩) (n1+1) cap').ownBlock=_\/(Value.slice (some ⟨g',0,none⟩) (n1+1) cap').ownBlock=_;simpa using hat6) hg7)
    have Hb7:Hid (Below w.heap.size w w7):=zaa (by
     have h5:=(uh Hb).trans (zab hb5 hsz)
     have h6:=h5.grown hg6 (by have:=hb5.size;omega) (λk hk=>by
      have:=(zaH ((uh Hst).row y) (by rw[uh Hva];exact hk)).1
      exact this)
     exact h6.grown hg7 h6.size (λk hk=>by cases hk;omega))
    have Hmp7:=zaa hmp7;clear hput hmp7 hg7 hmp6 hg6 hown6 hat6 hnil6 hb5 hmpn Hrow Hb2 Hx2 Hst2 Hmp2;go_wp2;go_roundw
    case rel=>exact⟨j+1,n+1,_,by go_num,by omega,uh Hmp7,by omega,uh Hst7,uh Hb7⟩
    case measure=>simp[intOf];omega
   ·have hdI:¬ (d:Int)<((zas G p).length:Int):=by omega
    have hn1:∀ y:Nat,zdh G ((p:Int),(d:Int),xk)≠some (y:Int):=λy h9=>by
     unfold zdh at h9;simp only[zsS] at h9;rw[List.getElem?_eq_none (by omega)] at h9
     cases h9
    have Hst3:Hid (StI w.heap.size G (l.take (j+1)) A W1):=zaa (by rw[uh Htk];exact zr4 (zhQ (O:=λ_=>False) (uh Hst) (zae (uh Hb1)) (λ_ _ _ h=>h)) hn1);have Hmp3:=zaa (zgU (uh Hmp) ((uh Hb1).block _ hmbl));have Hb3:=zaa ((uh Hb).trans (zab (uh Hb1) hsz));clear hn1 hnr;go_wp2;go_roundw
    case rel=>exact⟨j+1,n,A,by go_num,by omega,uh Hmp3,by omega,uh Hst3,uh Hb3⟩
    case measure=>simp[intOf];omega
  ·obtain rfl:j=l.length:=by omega
   rw[zsN] at hst;have hjlI:¬ ((l.length:Nat):Int)<(l.length:Int):=by omega
   have Hf:Hid (zkK G l w (.returned (.map (some w.heap.size))) wr):=zaa ⟨_,n,A,rfl,zsG _,hmp,hn,hst,hb⟩;clear hmp hst hb;go_wp2;go_ret;exact uh Hf
end Go.Proofs.YtieciibnajeibaaGreatDoor
