import Derived.Test.YtieciibnajeibaaGreatDoorKO
import Derived.Test.YtieciibnajeibaaGreatDoorKT
set_option maxHeartbeats 8000000
set_option maxRecDepth 100000
namespace Go.Proofs.YtieciibnajeibaaGreatDoor
open Go.RowKit Go.Maps
structure BM where
 kers:List (List It)
 sts:List (List It)
 cnt:Nat
noncomputable def zh0(G:Gm)(s:BM)(l:List It):Except Int (BM × Nat) :=
 if l ∈ s.kers then .ok (s,s.kers.idxOf l) else if zpG G s.cnt s.sts.length l=0 then .ok (⟨s.kers ++ [l],s.sts ++ [clR G l],s.cnt+(clR G l).length⟩,s.sts.length) else .error (zpG G s.cnt s.sts.length l)
noncomputable def goM(G:Gm)(st:List It):List Int->BM->List Int->Except Int (BM × List Int)
 | [],s,nx=>.ok (s,nx)
 | y::ys,s,nx=>match zh0 G s (zcb G st y.toNat) with
   | .error v=>.error v
   | .ok (s',n)=>goM G st ys s' (nx.set y.toNat n)
structure BmOk (G:Gm) (s:BM):Prop where
 len:s.kers.length=s.sts.length
 cnt:s.cnt<=1048576
 sts:s.sts.length<=4096
 its:∀ m,m ∈ s.kers->∀ x,x ∈ m->zcv G x=true
theorem zm8{G:Gm}{s s':BM}{l:List It}{n:Nat}(h:BmOk G s)(hl:∀ x,x ∈ l->zcv G x=true)(e:zh0 G s l=.ok (s',n)):BmOk G s':=by
 unfold zh0 at e
 split at e
 ·simp only[Except.ok.injEq,Prod.mk.injEq] at e;rw[<- e.1];exact h
 ·split at e
  ·rename_i hv;simp only[Except.ok.injEq,Prod.mk.injEq] at e;rw[<- e.1];unfold zpG at hv
   split at hv
   ·split at hv
    ·cases hv
    ·split at hv
     ·cases hv
     ·refine⟨by simp[h.len],by simp only;omega,by simp only[zsI,List.length_cons,List.length_nil];have:=h.sts;omega,λm hm=>?_⟩;simp only at hm;rcases List.mem_append.1 hm with h9 | h9
      ·exact h.its m h9
      ·rw[List.mem_singleton.1 h9];exact hl
   ·rename_i h8;exact absurd hv h8
  ·cases e
theorem ziT{G:Gm}{l:List It}(hl:∀ x,x ∈ l->zcv G x=true){y:Nat}:∀ x,x ∈ zcb G l y->zcv G x=true:=λx hx=>by
 unfold zcb at hx;obtain⟨z,hz,rfl⟩:=List.mem_map.1 hx;obtain⟨hz1,hz2⟩:=List.mem_filter.1 hz;have hz2:=of_decide_eq_true hz2;obtain⟨e1,e2,e3,e4,e5,e6⟩:=of_decide_eq_true (hl z hz1);unfold zdh at hz2;have:=(zsP.1 hz2).1;exact decide_eq_true ⟨e1,e2,by simp only;omega,by simp only;omega,e5,e6⟩
theorem zws{O O':Nat->Prop}{a b c:World}(h1:Fr O a b)(h2:Fr O' b c)(h:∀ k,k<a.heap.size->O' k->O k):Fr O a c :=
 ⟨zsy h1.1 h2.1,λk hk ho=>(h2.2.1 k (zsJ hk h1.1) (λh9=>ho (h k hk h9))).trans (h1.2.1 k hk ho),h2.2.2.1.trans h1.2.2.1,h2.2.2.2.1.trans h1.2.2.2.1,h2.2.2.2.2.trans h1.2.2.2.2⟩
theorem zeG(B gb:Nat)(G:Gm)(hG:GOk G)(w:World)(h:GmB B w gb G):Calls Tryz.prog 40 #[.pointer (some ⟨gb,0,none⟩)] w λe w'=>e=.returned (.int .i64 ((G.nk:Int)+G.nr))/\Below w.heap.size w w':=by
 obtain⟨ka,kc,pa,pc,ra,rc,qa,qc,wa,wc,hlt,hbox,-⟩:=h;have g0:=zac hbox 0 rfl;have g2:=zac hbox 2 rfl;have hk3:=hG.k3;have hr2:=hG.r2;have hw:IntKind.i64.wrap ((G.kinds.length:Int)+(G.rules.length:Int))=(G.kinds.length:Int)+(G.rules.length:Int):=by
  unfold Gm.nk at hk3;unfold Gm.nr at hr2;rw[IntKind.wrap_i64];omega
 clear hbox;go_enter Tryz.func40,Tryz.ntmps40;go_wp2_with fail;go_quiet (fail);go_wp2;go_ret;exact⟨rfl,zap (zsY _ _) _⟩
theorem zk9(xb n:Nat)(x:Int)(hn0:1<=n)(hn:n<=4096)(w:World)(hx:w.heap[xb]? = some (.cells #[.int .i64 x] 3)) :
 Calls Tryz.prog 134 #[.slice (some ⟨xb,0,none⟩) 1 1,.int .i64 (n:Int)] w λe w'=>∃ b,e=.returned (.slice (some ⟨b,0,none⟩) n n)/\w'.heap[b]? = some (.cells (List.replicate n (Value.int .i64 x)).toArray 3)/\w.heap.size<=b/\Below w.heap.size w w':=by
 have hmk:=λw=>run_make_row' (P:=Tryz.prog) 50 3 (.int .i64 0) 8 Tryz.underlying50 zdB rfl .i64 .i64 n (by omega) (by omega) w;have HM:=zaa (Tryz.bits_Mul 1 n (by omega) (by omega) w);have h1:(1 * n / 18446744073709551616:Nat)=0:=by omega
 have h2:(1 * n % 18446744073709551616:Nat)=n:=by omega
 rw[h1,h2] at HM;have hn':¬ (n:Int)<0:=by omega
 have hc:(IntKind.u64.wrap (n:Int))=n:=by rw[IntKind.wrap_u64];omega
 go_enter Tryz.func134,Tryz.ntmps134;go_wp2_with fail;refine(uh HM).mono ?_;rintro e w2 ⟨rfl,rfl⟩;have hxl:xb<w2.heap.size:=(zsO.1 hx).1;have hA:(w2.alloc (.cells (madeCells #[.int .i64 0] n) 3)).heap[w2.heap.size]? = some (.cells (List.replicate n (Value.int .i64 0)).toArray 3 (0,0)):=by rw[zmD];exact zsH _ _
 have hb1:Below w2.heap.size w2 (w2.alloc (.cells (madeCells #[.int .i64 0] n) 3)):=(zsY _ _).alloc (zsG _) _
 have hcp:=Wk.run_copy_rows (P:=Tryz.prog) (w2.alloc (.cells (madeCells #[.int .i64 0] n) 3)) 50 50 3 3 1 w2.heap.size 0 n n ⟨xb,0,none⟩ 1 1 (List.replicate n (Value.int .i64 0)) 3 [.int .i64 x] Tryz.underlying50 zr8 hA (by simp[Nat.min_def];omega) (λj v hv=>by
  rcases j with _ | j
  ·cases hv
   rw[zhp];exact(hb1.cell (p:=⟨xb,0,none⟩) hxl).trans (by unfold World.cell?;rw[hx];rfl)
  ·cases hv) (by simp;omega) (λv hv=>by simp at hv;subst hv;rfl)
 have hmin:Nat.min 1 n=1:=by simp[Nat.min_def];omega
 rw[hmin] at hcp;have hov:=zgo (.int .i64 0) (.int .i64 x) 0 1 (n - 1);simp only[List.replicate_zero,List.nil_append,Nat.zero_add,show 1+(n - 1)=n by omega] at hov;have hov':Wk.over (List.replicate n (Value.int .i64 0)) 0 [.int .i64 x]=.int .i64 x::List.replicate (n - 1) (.int .i64 0):=hov;rw[hov'] at hcp;have hW:((w2.alloc (.cells (madeCells #[.int .i64 0] n) 3)).setRow w2.heap.size (Value.int .i64 x::List.replicate (n - 1) (Value.int .i64 0)).toArray).heap[w2.heap.size]? = some (.cells (Value.int .i64 x::List.replicate (n - 1) (Value.int .i64 0)).toArray 3 (0,0)):=setRow_heap _ _ _ _ _ _ hA;have hbW:Below w2.heap.size w2 ((w2.alloc (.cells (madeCells #[.int .i64 0] n) 3)).setRow w2.heap.size (Value.int .i64 x::List.replicate (n - 1) (Value.int .i64 0)).toArray):=Wk.below_row hb1 _ (zsG _) _;have Hst:=zaa (And.intro hW hbW);clear hA hov hov' hW hbW;go_wp2_with (at_builtin;refine Wk.wpList_copy_known _ rfl _ _ 50 50 rfl _ _ rfl rfl hcp ?_);generalize (w2.alloc (.cells (madeCells #[.int .i64 0] n) 3)).setRow w2.heap.size (Value.int .i64 x::List.replicate (n - 1) (Value.int .i64 0)).toArray=W0 at *
 go_loopw [8] (λy W=>∃ m:Nat,y=.int .i64 m/\1<=m/\m<=n/\W.heap[w2.heap.size]? = some (.cells (List.replicate m (Value.int .i64 x) ++ List.replicate (n - m) (Value.int .i64 0)).toArray 3 (0,0))/\Below w2.heap.size w2 W) (λy _=>n - (intOf y).toNat)
 case atStart=>exact⟨1,rfl,zsG _,hn0,(uh Hst).1,(uh Hst).2⟩
 case round =>
  clear Hst hcp hb1;obtain⟨m,rfl,hm1,hmn,hW,hb⟩:=hrel;by_cases hlt:m<n
  ·have hlt':(m:Int)<n:=by omega
   obtain⟨k,hk⟩:∃ k,k=Nat.min m (n - m):=⟨_,rfl⟩;have hk1:1<=k/\k<=n - m/\k<=m:=by rw[hk];simp only[Nat.min_def];split <;> omega
   have hs1:=λw=>zma w2.heap.size n m hlt w;have hs2:=λw=>zmb w2.heap.size 0 n n m hmn w
   have HC:=zaa (λ(W':World) (hW':W'.heap[w2.heap.size]? = some (.cells (List.replicate m (Value.int .i64 x) ++ List.replicate (n - m) (Value.int .i64 0)).toArray 3 (0,0)))=>Wk.run_copy_rows (P:=Tryz.prog) W' 50 50 3 3 1 w2.heap.size m (n - m) (n - m) ⟨w2.heap.size,0,none⟩ m n (List.replicate m (Value.int .i64 x) ++ List.replicate (n - m) (Value.int .i64 0)) 3 (List.replicate k (.int .i64 x)) Tryz.underlying50 zr8 hW' (by rw[<- hk];simp) (λj v hv=>by
    have hj:j<k:=by
     rcases Nat.lt_or_ge j k with h | h
     ·exact h
     ·rw[List.getElem?_eq_none (by simp;omega)] at hv;cases hv
    rw[List.getElem?_replicate,if_pos hj] at hv
    cases hv
    have:=World.news_of_block hW' j (.int .i64 x) (by
     rw[List.getElem?_append_left (by simp;omega),List.getElem?_replicate,if_pos (by omega)])
    exact this) (by simp;omega) (λv hv=>by rw[(List.mem_replicate.1 hv).2];rfl))
   rw[<- hk] at HC;have hov:Wk.over (List.replicate m (Value.int .i64 x) ++ List.replicate (n - m) (Value.int .i64 0)) m (List.replicate k (.int .i64 x))=List.replicate (m+k) (.int .i64 x) ++ List.replicate (n - (m+k)) (.int .i64 0):=by
    have h:=zgo (.int .i64 0) (.int .i64 x) m k (n - (m+k))
    rwa [show k+(n - (m+k))=n - m by omega] at h
   rw[hov] at HC;clear hov hk;have hwk:IntKind.i64.wrap ((m:Int)+k)=m+k:=by rw[IntKind.wrap_i64];omega
   go_wp2
   go_region_law (refine Wk.step_copy_known rfl (.tmp 41) (.tmp 44) 50 50 rfl (.slice (some ⟨w2.heap.size,m,none⟩) (n - m) (n - m)) (.slice (some ⟨w2.heap.size,0,none⟩) m n) (by simp[Act.eval,Act.put]) (by simp[Act.eval,Act.put]) (uh HC _ hW) ?_)
   all_goals
    go_simp;go_wp2;go_roundw
    case rel=>exact⟨m+k,by go_num,by omega,by omega,setRow_heap _ _ _ _ _ _ hW,Wk.below_row hb.drew _ (zsG _) _⟩
    case measure=>simp[intOf];omega
  ·obtain rfl:m=n:=by omega
   have hW2:wr.heap[w2.heap.size]? = some (.cells (List.replicate m (Value.int .i64 x)).toArray 3):=by rw[hW];simp
   go_wp2;go_ret;exact⟨w2.heap.size,rfl,hW2,zsG _,hb⟩
section
variable {R:Nat->Prop} {B0 B cb gb tb bb mb:Nat} {G:Gm} {kers sts:List (List It)} {nxs:List (List Int)} {cnt:Nat} {vS vN:Value} {svs nvs:List Value} {w w':World}
theorem zeU(h:BdS R B0 B cb gb tb bb mb G kers sts nxs cnt vS vN svs nvs w){k:Nat}{cs:Array Value}{t:TypeId}{f:Nat × Nat}(hk:w.heap[k]? = some (.cells cs t f))(h1:t≠240)(h2:t≠91)(h3:t≠27)(h4:t≠50):¬ BdF bb mb tb vS vN k:=by
 obtain⟨hRt,tcs,htb,-⟩:=h.rt;rintro(e | e | e | e | e)
 ·rw[e,htb] at hk;cases hk;exact h1 rfl
 ·rw[e,h.box] at hk;cases hk;exact h2 rfl
 ·exact zbG h.met (e▸hk)
 ·obtain⟨-,cs,h9⟩:=zaH h.rowS e;rw[h9] at hk;cases hk;exact h3 rfl
 ·obtain⟨-,cs,h9⟩:=zaH h.rowN e;rw[h9] at hk;cases hk;exact h4 rfl
theorem zuU(h:BdS R B0 B cb gb tb bb mb G kers sts nxs cnt vS vN svs nvs w){k:Nat}(hk:BdF bb mb tb vS vN k):B0<=k:=by
 rcases hk with e | e | e | e | e
 ·exact e▸h.lo.2.2.1
 ·exact e▸h.lo.1
 ·exact e▸h.lo.2.1
 ·exact(zaH h.rowS e).1
 ·exact(zaH h.rowN e).1
theorem zxe(h:BdS R B0 B cb gb tb bb mb G kers sts nxs cnt vS vN svs nvs w){k n:Nat}{A:Nat->Sl}(hk:MpI w k n A)(hm:k≠mb):¬ BdF bb mb tb vS vN k:=by
 obtain⟨hRt,tcs,htb,-⟩:=h.rt;rintro(e | e | e | e | e)
 ·exact zbq hk (e▸htb)
 ·exact zbq hk (e▸h.box)
 ·exact hm e
 ·obtain⟨-,cs,h9⟩:=zaH h.rowS e;exact zbq hk h9
 ·obtain⟨-,cs,h9⟩:=zaH h.rowN e;exact zbq hk h9
theorem zxc(h:BdS R B0 B cb gb tb bb mb G kers sts nxs cnt vS vN svs nvs w){nb:Nat}(hf:Fr (λk=>k=nb) w w')(hn:¬ R nb)(hb:¬ BdF bb mb tb vS vN nb):BdS R B0 B cb gb tb bb mb G kers sts nxs cnt vS vN svs nvs w':=by
 have hfR:Fr (λk=>¬ R k) w w':=zaj hf (λk _ e hR=>hn (e▸hR));obtain⟨hbl,hml,-⟩:=zbW h;exact⟨(hf.2.1 bb hbl (λe=>hb (.inr (.inl e.symm)))).trans h.box,zbb h.cl hfR,zbC h.rt (zaj hf (λk _ e=>⟨λhR=>hn (e▸hR),λe2=>hb (.inl (e.symm.trans e2))⟩)),λk hk=>zsJ (h.rl k hk) hf.1,zhM h.met (hf.2.1 mb hml (λe=>hb (.inr (.inr (.inl e.symm))))),h.len,zaC h.rowS hf (λk hk e=>hb (.inr (.inr (.inr (.inl (e▸hk)))))),zeb h.stS hfR,zaC h.rowN hf (λk hk e=>hb (.inr (.inr (.inr (.inr (e▸hk)))))),zef h.stN hfR,h.nS,h.nN,h.nR,h.lo.1,h.lo.2.1,h.lo.2.2.1,zsy h.lo.2.2.2 hf.1⟩
theorem tb_fr{O:Nat->Prop}(h:Tb w.heap.size w)(hf:Fr O w w')(h0:¬ O 0):Tb w'.heap.size w' :=
 ⟨zsJ h.1 hf.1,λj hj=>(zsL (hf.2.1 0 h.1 h0)).trans (h.2 j hj)⟩
theorem zoB(l:List Int)(i:Nat)(x:Int):(zao l).set i (.int .i64 x)=zao (l.set i x):=by
 unfold zao;rw[List.map_set]
end
noncomputable def ysI(G:Gm)(st:List It):List Int:=((List.range bigN).filter λq=>decide (zcb G st q≠[])).map λ(q:Nat)=>(q:Int)
theorem zr0{B:Nat}{G:Gm}{st:List It}{A:Nat->Sl}{w:World}(h:StI B G st A w):zgH A=ysI G st:=by
 unfold zgH ysI
 congr 2
 funext q;exact decide_eq_decide.2 (not_congr (h.non q))
theorem zow{G:Gm}(hG:GOk G){st:List It}(hst:∀ x,x ∈ st->zcv G x=true){x:Int}(h:x ∈ ysI G st):∃ y:Nat,x=y/\y<=1048576/\zcb G st y≠[]/\y<G.nk+G.nr:=by
 unfold ysI at h;obtain⟨y,hy,rfl⟩:=List.mem_map.1 h;rw[List.mem_filter,List.mem_range,decide_eq_true_eq,zhm] at hy;refine⟨y,rfl,by omega,hy.2,?_⟩;obtain⟨z,hz⟩:=List.exists_mem_of_ne_nil _ hy.2;unfold zcb at hz;obtain⟨u,hu,-⟩:=List.mem_map.1 hz;obtain⟨hu1,hu2⟩:=List.mem_filter.1 hu;have hu2:=of_decide_eq_true hu2;obtain⟨e1,e2,-⟩:=of_decide_eq_true (hst u hu1);unfold zdh at hu2;have:=zbe hG e1 e2 _ (List.mem_of_getElem? hu2);unfold Gm.nk Gm.nr;omega
theorem zgS{R0:Nat->Prop}{B0 B cb gb tb bb mb:Nat}{G:Gm}{s:BM}{nxs:List (List Int)}{vS vN:Value}{svs nvs:List Value}{l:List It}{w w':World}{e:Ending}(h:zd0 R0 B0 B cb gb tb bb mb G s.kers s.sts nxs s.cnt vS vN svs nvs l w e w'):Fr (BdF bb mb tb vS vN) w w'/\((∃ v,zh0 G s l=.error v/\v≠0/\e=.returned (.tuple #[.int .i64 0,.int .i64 v]))\/∃ (s':BM) (n:Nat),zh0 G s l=.ok (s',n)/\e=.returned (.tuple #[.int .i64 (n:Int),.int .i64 0])/\∃ (R':Nat->Prop) (vS':Value) (svs':List Value),BdS R' B0 B cb gb tb bb mb G s'.kers s'.sts nxs s'.cnt vS' vN svs' nvs w'/\(∀ k,R0 k->R' k)/\(∀ k,R' k->R0 k\/w.heap.size<=k)/\(vS'.ownBlock=vS.ownBlock\/∃ k,vS'.ownBlock=some k/\w.heap.size<=k)):=by
 obtain⟨h1,h2⟩:=h;refine⟨h1,?_⟩;rcases h2 with ⟨e1,e2,e3⟩ | ⟨e1,e2,e3⟩ | ⟨e1,e2,e3,e4⟩
 ·exact .inr ⟨s,s.kers.idxOf l,if_pos e1,e2,R0,vS,svs,e3,λ_ h=>h,λ_ h=>.inl h,.inl rfl⟩
 ·exact .inl ⟨_,by unfold zh0;rw[if_neg e1,if_neg e2],e2,e3⟩
 ·exact .inr ⟨_,s.sts.length,by unfold zh0;rw[if_neg e1,if_pos e2],e3,e4⟩
def zrE(R0:Nat->Prop)(B0 B cb gb tb bb mb:Nat)(G:Gm)(s:BM)(nxs:List (List Int))(vS vN:Value)(nvs:List Value)(st:List It)(w:World)(e:Ending)(w':World):Prop :=
 Fr (BdF bb mb tb vS vN) w w'/\match goM G st (ysI G st) s (List.replicate (G.nk+G.nr) (-1)) with
 | .error v=>e=.returned (.tuple #[.slice none 0 0,.int .i64 v])
 | .ok (s',nx)=>∃ nb,e=.returned (.tuple #[.slice (some ⟨nb,0,none⟩) (G.nk+G.nr) (G.nk+G.nr),.int .i64 0])/\w.heap.size<=nb/\nx.length=G.nk+G.nr/\w'.heap[nb]? = some (.cells (zao nx).toArray 3 (0,0))/\BmOk G s' /\
   ∃ (R':Nat->Prop) (vS':Value) (svs':List Value),BdS R' B0 B cb gb tb bb mb G s'.kers s'.sts nxs s'.cnt vS' vN svs' nvs w'/\(∀ k,R0 k->R' k)/\(∀ k,R' k->R0 k\/w.heap.size<=k)/\(vS'.ownBlock=vS.ownBlock\/∃ k,vS'.ownBlock=some k/\w.heap.size<=k)
theorem ztB(R:Nat->Prop)(B0 B cb gb tb bb mb:Nat)(G:Gm)(hG:GOk G)(s:BM)(hs:BmOk G s)(nxs:List (List Int))(vS vN:Value)(svs nvs:List Value)(w:World)(h:BdS R B0 B cb gb tb bb mb G s.kers s.sts nxs s.cnt vS vN svs nvs w)(htab:Tb w.heap.size w)(sa:Option Addr)(sc:Nat)(st:List It)(hl:st.length<=1000000000)(hit:∀ x,x ∈ st->zcv G x=true)(hi:zcy w.heap.size w sa st)(hB1:0<B0) :
 Calls Tryz.prog 89 #[.pointer (some ⟨bb,0,none⟩),.slice sa st.length sc] w λe w'=>zrE R B0 B cb gb tb bb mb G s nxs vS vN nvs st w e w':=by
 have c0:=zac h.box 0 rfl;obtain⟨na,nc,fa,fc,oa,oc,rc,hcbx,hRc,hgm,hBw,-⟩:=id h.cl;have d0:=zac hcbx 0 rfl;have hcl:=h.rl cb hRc;have hbl:=(zbW h).1;have hk3:=hG.k3;have hr2:=hG.r2;have hr1:=hG.r1;have hB0:=hBw;have Hh:=zaa h;have Htab:=zaa htab;have Hit:=zaa hit;have Hi:=zaa hi;have Hcbx:=zaa hcbx;have Hgm:=zaa hgm;have Hs:=zaa hs;clear h htab hit hi hcbx hgm hs;go_enter Tryz.func89,Tryz.ntmps89;go_wp2_with fail;obtain⟨W1,hW1⟩:∃ W1,W1=w.alloc (.cells #[.int .i64 (-1)] 3):=⟨_,rfl⟩;have hb1:Below w.heap.size w W1:=by rw[hW1];exact(zsY _ _).alloc (zsG _) _
 have hx1:W1.heap[w.heap.size]? = some (.cells #[.int .i64 (-1)] 3 (0,0)):=by rw[hW1];exact zsH _ _
 have hs1:=hb1.size;rw[<- hW1];clear hW1;refine(zeG B gb G hG W1 (zaX (zab hb1 hBw) (uh Hgm))).mono ?_;rintro e W2 ⟨rfl,hb2⟩;have hb12:Below w.heap.size w W2:=hb1.trans (zab hb2 hs1);have hlt1:w.heap.size<W1.heap.size:=(zsO.1 hx1).1;have HRp:=zaa (zk9 w.heap.size (G.nk+G.nr) (-1) (by omega) (by omega) W2 ((hb2.block _ hlt1).trans hx1))
 push_cast at HRp
 have Hb12:=zaa hb12;clear hb1 hx1 hb2 hb12 hs1;go_wp2_with fail;refine(uh HRp).mono ?_;rintro e W3 ⟨nb,rfl,hnx,hnbs,hb3⟩;have hs2:=(uh Hb12).size;have hb13:Below w.heap.size w W3:=(uh Hb12).trans (zab hb3 hs2);have c3:=(hb13.cell (p:=⟨bb,0,none⟩) hbl).trans c0;have d3:=(hb13.cell (p:=⟨cb,0,none⟩) hcl).trans d0;have hnbl:=(zsO.1 hnx).1;have hs3:=hb13.size;have HSt:=zaa (zjG B gb G hG sa sc st hl (uh Hit) W3 (by omega) (zaX (zab hb13 hBw) (uh Hgm)) (zaI (zaw hb13 (uh Hi)) hs3));have Hnx:=zaa hnx;have Hb13:=zaa hb13;clear hnx hb3 hb13 HRp c0 d0;go_wp2_with fail;refine(uh HSt).mono ?_;rintro e W4 ⟨kb,n,A,rfl,hkb,hmp,hn,hst,hb4⟩;have hs4:=hb4.size;have hb14:Below w.heap.size w W4:=(uh Hb13).trans (zab hb4 hs3);have hnx4:=(hb4.block nb hnbl).trans (uh Hnx);have HK1:=zaa (zln (some kb) W4);have HK2:=zaa (zhy kb n A W4 hmp (by omega));rw[zr0 hst] at HK2;have Hmp:=zaa hmp;have Hst:=zaa hst;have Hb14:=zaa hb14;have Hnx4:=zaa hnx4;clear hmp hst hb14 hnx4 hb4 HSt c3 d3 Hnx Hb13 Hb12;go_wp2_with (first | (go_at_call 136;refine(uh HK1).mono ?_;rintro e W5 ⟨rfl,rfl⟩) | (go_at_call 135;refine(uh HK2).mono ?_;rintro e W6 ⟨v,rfl,hown6,hb6⟩;obtain⟨ya,yc,rfl⟩:=zaf hown6));obtain⟨ys,hys⟩:∃ ys,ys=ysI G st:=⟨_,rfl⟩;rw[<- hys] at hown6 ⊢;have hyl:ys.length<=1048577:=by
  rw[hys];unfold ysI;rw[List.length_map];exact zsy (List.length_filter_le _ _) (by rw[List.length_range,zhm];omega)
 have Hys:=zaa hys;have hb6':Below w.heap.size w W6:=(uh Hb14).trans (zab hb6 (by omega));have hb6z:=hb6.size;have Hh6:=zaa (zfu (uh Hh) hb6');have Hfr6:Hid (Fr (BdF bb mb tb vS vN) w W6):=zaa (zae hb6');have Hmp6:=zaa (zgU (uh Hmp) (hb6.block kb (zj7 (uh Hmp))));have Hst6:=zaa (zhQ (O:=λ_=>False) (uh Hst) (zae hb6) (λ_ _ _ h=>h));have hnx6:=(hb6.block nb (by omega)).trans (uh Hnx4)
 have Hnx6:Hid (W6.heap[nb]? = some (.cells (zao (List.replicate (G.nk+G.nr) (-1))).toArray 3 (0,0))):=zaa (by
  rw[hnx6];unfold zao;rw[List.map_replicate])
 have Hown6:=zaa hown6;clear hys hown6 hb6 hb6' hnx6 Hmp Hst Hb14 Hnx4 HK1 HK2
 go_loopw [35] (λx wr=>∃ (j:Nat) (s':BM) (nx:List Int) (R':Nat->Prop) (vS':Value) (svs':List Value),x=.int .i64 (j:Int)/\j<=ys.length/\goM G st ys s (List.replicate (G.nk+G.nr) (-1))=goM G st (ys.drop j) s' nx/\nx.length=G.nk+G.nr/\BmOk G s'/\BdS R' B0 B cb gb tb bb mb G s'.kers s'.sts nxs s'.cnt vS' vN svs' nvs wr/\(∀ k,R k->R' k)/\(∀ k,R' k->R k\/w.heap.size<=k)/\¬ R' nb/\(vS'.ownBlock=vS.ownBlock\/∃ k,vS'.ownBlock=some k/\w.heap.size<=k)/\Fr (BdF bb mb tb vS vN) w wr/\wr.heap[nb]? = some (.cells (zao nx).toArray 3 (0,0))/\MpI wr kb n A/\StI W3.heap.size G st A wr/\wr.ownsRow W4.heap.size 3 1 (.slice ya ys.length yc) ys.length (zao ys)) (λx _=>ys.length - (intOf x).toNat)
 case atStart =>
  refine⟨0,s,_,R,vS,svs,rfl,zsK _,rfl,by simp,uh Hs,uh Hh6,λ_ h=>h,λ_ h=>.inl h,λh9=>?_,.inl rfl,uh Hfr6,uh Hnx6,uh Hmp6,uh Hst6,uh Hown6⟩;have:=(uh Hh).rl nb h9;omega
 case round =>
  obtain⟨j,s',nx,R',vS',svs',rfl,hj,hgo,hnl,hok,hbd,hR1,hR2,hnb,hvS,hfr,hnx,hmp,hst,hown⟩:=hrel;by_cases hjl:j<ys.length
  ·have hjlI:(j:Int)<(ys.length:Int):=by omega
   obtain⟨yn,hye,hy48,hyne,hynr⟩:=zow hG (uh Hit) (x:=ys.getD j 0) (by rw[<- uh Hys,zsE,zsF hjl];exact List.getElem_mem hjl);have hlk:=ziR hmp yn hy48;obtain⟨va,vc,hva⟩:=zaf (hst.row yn);have hkrow:=hst.row yn;rw[hva] at hlk hkrow;have hml:=ziS G st yn;have hcons:ys.drop j=(yn:Int)::ys.drop (j+1):=by
    rw[List.drop_eq_getElem_cons hjl,<- hye,zsE,zsF hjl];rfl
   have hgoE:goM G st (ys.drop j) s' nx=match zh0 G s' (zcb G st yn) with | .error v=>.error v | .ok (s2,n)=>goM G st (ys.drop (j+1)) s2 (nx.set yn n):=by
    rw[hcons];rfl
   obtain⟨ya',yc',e9,hnr⟩:=zb4 hown;obtain⟨rfl,rfl⟩:ya=ya'/\yc=yc':=by simpa using e9
   obtain⟨rb,roff,rfl,hrb,q0⟩:=zbf hnr hjl;rw[hye] at q0;have hmbl:=(zbW (uh Hh)).2.1
   have HN:=zaa (zhZ R' B0 B cb gb tb bb mb G hG s'.kers s'.sts nxs s'.cnt hok.cnt hok.sts hok.its vS' vN svs' nvs wr hbd (tb_fr (uh Htab) hfr (λh9=>by have:=zuU (uh Hh) h9;omega)) va vc (zcb G st yn) (by omega) (ziT (uh Hit)) (za4 hkrow) (λx hx=>by
    rcases hkrow.2 with ⟨e8,-⟩ | ⟨g,cap,cur,e8,-,hg2,-⟩
    ·rw[hx] at e8;cases e8
    ·rw[hx] at e8;obtain rfl:x=⟨g,0,none⟩:=by simpa using (Value.slice.inj e8).1
     exact λe7=>zeU hbd hg2 (by decide) (by decide) (by decide) (by decide) (.inl e7)))
   have hwz:=hfr.1;have hyI:(yn:Int)<(G.nk:Int)+(G.nr:Int):=by omega
   have Hjl:=zaa hjl;have hnbw:nb<wr.heap.size:=(zsO.1 hnx).1;have Hgo:=zaa hgo;have HgoE:=zaa hgoE;have Hok:=zaa hok;have Hbd:=zaa hbd;have HR:=zaa (And.intro hR1 hR2);have HvS:=zaa hvS;have Hfr:=zaa hfr;have Hnx:=zaa hnx;have Hmp:=zaa hmp;have Hst:=zaa hst;have Hown:=zaa hown;clear hgo hgoE hok hbd hR1 hR2 hvS hfr hnx hmp hst hown hkrow hva hcons hnr hye e9;go_wp2_with fail;refine(uh HN).mono ?_;rintro e w7 hp;obtain⟨hf7,hp⟩:=zgS hp
   have hfr7:Fr (BdF bb mb tb vS vN) w w7:=zws (uh Hfr) hf7 (λk hk h9=>by
    rcases h9 with h9 | h9 | h9 | h9 | h9
    ·exact .inl h9
    ·exact .inr (.inl h9)
    ·exact .inr (.inr (.inl h9))
    ·rcases uh HvS with e | ⟨k',e,h8⟩
     ·exact .inr (.inr (.inr (.inl (e▸h9))))
     ·rw[e] at h9;cases h9;omega
    ·exact .inr (.inr (.inr (.inr h9))))
   rcases hp with ⟨v,hnum,hv0,rfl⟩ | ⟨s2,n2,hnum,rfl,R2,vS2,svs2,hbd2,g1,g2,g3⟩
   ·have Hf:Hid (zrE R B0 B cb gb tb bb mb G s nxs vS vN nvs st w (.returned (.tuple #[.slice none 0 0,.int .i64 v])) w7):=zaa (by
     refine⟨hfr7,?_⟩
     rw[<- uh Hys,uh Hgo,uh HgoE,hnum])
    have hv':(v != 0)=true:=by simpa using hv0
    clear hfr7 hf7 hnum HN hlk q0;go_wp2;refine bodyPost_ret (v:=.tuple #[.slice none 0 0,.int .i64 v]) ?zz2 rfl (uh Hf)
    case zz2=>simp[results,Tryz.results89,go_sem]
   ·have hnbF:¬ BdF bb mb tb vS' vN nb:=zeU (uh Hbd) (uh Hnx) (by decide) (by decide) (by decide) (by decide);have hnx7:=(hf7.2.1 nb hnbw hnbF).trans (uh Hnx)
    have cy:w7.cell? ⟨nb,yn,none⟩=some (.int .i64 (nx.getD yn 0)):=Wk.cell_block hnx7 yn _ (by
     rw[List.getElem?_toArray];unfold zao;rw[List.getElem?_map,zsE,zsF (by omega)];rfl)
    have zy:=Wk.frozen_block hnx7 yn;have hf8:Fr (λk=>k=nb) w7 (w7.setCell ⟨nb,yn,none⟩ (.int .i64 (n2:Int))):=zaD (zax (λk=>k=nb) w7) (p:=⟨nb,yn,none⟩) rfl _;have hnR2:¬ R2 nb:=λh9=>(g2 nb h9).elim hnb (λh8=>by omega);have hkbF:¬ BdF bb mb tb vS' vN kb:=zxe (uh Hbd) (uh Hmp) (by omega);have hkbl:=zj7 (uh Hmp);have hmp7:=zgU (uh Hmp) (hf7.2.1 kb hkbl hkbF);have hkbn:kb≠nb:=λe=>zbq (uh Hmp) (e▸uh Hnx);have hmp8:=zgU hmp7 (hf8.2.1 kb (zj7 hmp7) hkbn)
    have hst7:=zhQ (uh Hst) hf7 (λy k hk=>by
     obtain⟨-,cs,h9⟩:=zaH ((uh Hst).row y) hk
     exact zeU (uh Hbd) h9 (by decide) (by decide) (by decide) (by decide))
    have hst8:=zhQ hst7 hf8 (λy k hk e=>by
     have:=(zaH ((uh Hst).row y) hk).1
     omega)
    have hown7:=zaC (uh Hown) hf7 (λk hk=>by
     obtain⟨-,cs,h9⟩:=zaH (uh Hown) hk
     exact zeU (uh Hbd) h9 (by decide) (by decide) (by decide) (by decide))
    have hown8:=zaC hown7 hf8 (λk hk e=>by
     have:=(zaH (uh Hown) hk).1
     omega)
    have hbd8:=zxc hbd2 hf8 hnR2 (zeU hbd2 hnx7 (by decide) (by decide) (by decide) (by decide));have hnx8:(w7.setCell ⟨nb,yn,none⟩ (.int .i64 (n2:Int))).heap[nb]? = some (.cells (zao (nx.set yn (n2:Int))).toArray 3 (0,0)):=by
     rw[Wk.block_set hnx7 _,<- zoB,List.setIfInBounds_toArray]
    have Hrel:Hid (∃ (j':Nat) (s'':BM) (nx':List Int) (R'':Nat->Prop) (vS'':Value) (svs'':List Value),j'=j+1/\goM G st ys s (List.replicate (G.nk+G.nr) (-1))=goM G st (ys.drop j') s'' nx'/\nx'.length=G.nk+G.nr/\BmOk G s''/\BdS R'' B0 B cb gb tb bb mb G s''.kers s''.sts nxs s''.cnt vS'' vN svs'' nvs (w7.setCell ⟨nb,yn,none⟩ (.int .i64 (n2:Int)))/\(∀ k,R k->R'' k)/\(∀ k,R'' k->R k\/w.heap.size<=k)/\¬ R'' nb/\(vS''.ownBlock=vS.ownBlock\/∃ k,vS''.ownBlock=some k/\w.heap.size<=k)/\Fr (BdF bb mb tb vS vN) w (w7.setCell ⟨nb,yn,none⟩ (.int .i64 (n2:Int)))/\(w7.setCell ⟨nb,yn,none⟩ (.int .i64 (n2:Int))).heap[nb]? = some (.cells (zao nx').toArray 3 (0,0))):=zaa (by
     refine⟨j+1,s2,nx.set yn (n2:Int),R2,vS2,svs2,rfl,?_,by rw[List.length_set];exact hnl,zm8 (uh Hok) (ziT (uh Hit)) hnum,hbd8,λk hk=>g1 k ((uh HR).1 k hk),λk hk=>?_,hnR2,?_,zws hfr7 hf8 (λk hk e=>by omega),hnx8⟩
     ·rw[uh Hgo,uh HgoE,hnum]
     ·rcases g2 k hk with h9 | h9
      ·exact(uh HR).2 k h9
      ·exact .inr (by omega)
     ·rcases g3 with e | ⟨k,e,h8⟩
      ·rw[e];exact uh HvS
      ·exact .inr ⟨k,e,by omega⟩)
    have Hk:=zaa (And.intro hmp8 (And.intro hst8 hown8));clear hfr7 hf7 hnum HN hlk q0 hnbF hnx7 hf8 hnR2 hkbF hkbl hmp7 hkbn hmp8 hst7 hst8 hown7 hown8 hbd8 hnx8 hbd2 g1 g2 g3;go_wp2;go_roundw
    case rel =>
     obtain⟨j',s'',nx',R'',vS'',svs'',rfl,r⟩:=uh Hrel;obtain⟨k1,k2,k3⟩:=uh Hk;obtain⟨r1,r2,r3,r4,r5,r6,r7,r8,r9,r10⟩:=r;have hjl2:=uh Hjl;exact⟨j+1,s'',nx',R'',vS'',svs'',by go_num,by omega,r1,r2,r3,r4,r5,r6,r7,r8,r9,r10,k1,k2,k3⟩
    case measure=>have hjl2:=uh Hjl;simp[intOf];omega
  ·obtain rfl:j=ys.length:=by omega
   have hjlI:¬ ((ys.length:Nat):Int)<(ys.length:Int):=by omega
   rw[List.drop_length] at hgo
   have Hf:Hid (zrE R B0 B cb gb tb bb mb G s nxs vS vN nvs st w (.returned (.tuple #[.slice (some ⟨nb,0,none⟩) (G.nk+G.nr) (G.nk+G.nr),.int .i64 0])) wr):=zaa (by
    refine⟨hfr,?_⟩;rw[<- uh Hys,hgo]
    exact⟨nb,rfl,by omega,hnl,hnx,hok,R',vS',svs',hbd,hR1,hR2,hvS⟩)
   clear hgo hnl hok hbd hR1 hR2 hnb hvS hfr hnx hmp hst hown;go_wp2;refine bodyPost_ret (v:=.tuple #[.slice (some ⟨nb,0,none⟩) (G.nk+G.nr) (G.nk+G.nr),.int .i64 0]) ?zz1 rfl (uh Hf)
   case zz1=>simp[results,Tryz.results89,go_sem]
def zxq(G:Gm)(s:BM):Prop:=∀ m,m ∈ s.sts->m.length<=65536/\∀ x,x ∈ m->zcv G x=true
theorem clR_is{G:Gm}(hG:GOk G){l:List It}(hl:∀ x,x ∈ l->zcv G x=true):(clR G l).length<=65536/\∀ x,x ∈ clR G l->zcv G x=true:=by
 unfold clR
 split
 ·rename_i h;refine⟨h,λx hx=>?_⟩;rcases(zcE hG).1 hx with h9 | ⟨p,k,e,hp,hk,-⟩
  ·exact hl x h9
  ·rw[e];unfold Gm.nk at hk;exact decide_eq_true ⟨by simp only;omega,by simp only;omega,by simp only;omega,by simp only;omega,by simp only;omega,by simp only;omega⟩
 ·exact⟨by simp,λx hx=>by simp at hx⟩
theorem zl7{G:Gm}(hG:GOk G){s s':BM}{l:List It}{n:Nat}(h:zxq G s)(hl:∀ x,x ∈ l->zcv G x=true)(e:zh0 G s l=.ok (s',n)):zxq G s':=by
 unfold zh0 at e
 split at e
 ·simp only[Except.ok.injEq,Prod.mk.injEq] at e;rw[<- e.1];exact h
 ·split at e
  ·simp only[Except.ok.injEq,Prod.mk.injEq] at e;rw[<- e.1];intro m hm;simp only at hm;rcases List.mem_append.1 hm with h9 | h9
   ·exact h m h9
   ·rw[List.mem_singleton.1 h9];exact clR_is hG hl
  ·cases e
theorem zo0{G:Gm}(hG:GOk G){st:List It}(hst:∀ x,x ∈ st->zcv G x=true):∀ {ys:List Int} {s s':BM} {nx nx':List Int},zxq G s->goM G st ys s nx=.ok (s',nx')->zxq G s'
 | [],s,s',nx,nx',h,e=>by
   simp only[goM,Except.ok.injEq,Prod.mk.injEq] at e;rw[<- e.1];exact h
 | y::ys,s,s',nx,nx',h,e=>by
   unfold goM at e
   split at e
   ·cases e
   ·rename_i s2 n hn;exact zo0 hG hst (zl7 hG h (ziT hst) hn) e
noncomputable def zdq(G:Gm):Nat->BM->List (List Int)->Except Int (BM × List (List Int))
 | 0,s,nxs=>.ok (s,nxs)
 | f+1,s,nxs=>if nxs.length<s.sts.length then match goM G (s.sts.getD nxs.length []) (ysI G (s.sts.getD nxs.length [])) s (List.replicate (G.nk+G.nr) (-1)) with
    | .error v=>.error v
    | .ok (s',nx)=>zdq G f s' (nxs ++ [nx])
   else .ok (s,nxs)
def zaP(G:Gm):It:=((G.prods.length:Int),0,0)
noncomputable def zcp(G:Gm):Except Int (BM × List (List Int)) :=
 match zh0 G ⟨[],[],0⟩ [zaP G] with
 | .error v=>.error v
 | .ok (s,_)=>zdq G 4096 s []
theorem ze4{G:Gm}(hG:GOk G):zcv G (zaP G)=true:=by
 have hk:=hG.k2;exact decide_eq_true ⟨by unfold zaP;simp only;omega,by unfold zaP;simp only;omega,by unfold zaP;simp only;omega,by unfold zaP;simp only;omega,by unfold zaP;simp only;omega,by unfold zaP;simp only;unfold Gm.nk at hk;omega⟩
section
variable {R:Nat->Prop} {B0 B cb gb tb bb mb:Nat} {G:Gm} {kers sts:List (List It)} {nxs:List (List Int)} {cnt:Nat} {vS vN:Value} {svs nvs:List Value} {w w':World}
theorem znL{R:Nat->Prop}{w:World}{vs:List Value}{nxs:List (List Int)}(h:zht R w vs nxs){a:Option Addr}{c:Nat}{l:List Int}(hl:zkL R w a l):zht R w (vs ++ [.slice a l.length c]) (nxs ++ [l]):=by
 refine⟨by simp[h.1],λi hi=>?_⟩;by_cases e:i<nxs.length
 ·obtain⟨a',c',h1,h2⟩:=h.2 i e;have e2:(nxs ++ [l]).getD i []=nxs.getD i []:=by rw[zsE,zsE,List.getElem?_append_left e]
  rw[e2];exact⟨a',c',by rw[List.getElem?_append_left (by rw[h.1];exact e)];exact h1,h2⟩
 ·obtain rfl:i=nxs.length:=by simp at hi;omega
  have e2:(nxs ++ [l]).getD nxs.length []=l:=by simp[List.getD_eq_getElem?_getD]
  rw[e2];exact⟨a,c,by rw[<- h.1];simp,hl⟩
theorem zuf(h:BdS R B0 B cb gb tb bb mb G kers sts nxs cnt vS vN svs nvs w){w6:World}{a:Option Addr}{c:Nat}{nx:List Int}(hnx:zkL R w a nx)(tmp:Obj){vN':Value}(hr:w6.ownsRow B0 50 1 vN' (nxs.length+1) (nvs ++ [.slice a nx.length c]))(hg6:(w.alloc tmp).grownBy w6 vN.ownBlock)(hv:vN'.ownBlock=vN.ownBlock\/vN'.ownBlock=some (w.alloc tmp).heap.size) :
 BdS R B0 B cb gb tb bb mb G kers sts (nxs ++ [nx]) cnt vS vN' svs (nvs ++ [.slice a nx.length c]) (w6.setCell ⟨bb,2,none⟩ vN')/\Fr (λk=>B0<=k) w (w6.setCell ⟨bb,2,none⟩ vN'):=by
 obtain⟨hbl,hml,n1,n2,n3,n4,n5,n6⟩:=zbW h;have hb5:Below w.heap.size w (w.alloc tmp):=(zsY _ _).alloc (zsG _) _;have hs5:=hb5.size;have hs6:=hg6.size;have hf6:Fr (λk=>vN.ownBlock=some k) w w6:=zcK (zae hb5) (zn2 hg6 (λk e=>e));have hf:Fr (λk=>k=bb\/vN.ownBlock=some k) w (w6.setCell ⟨bb,2,none⟩ vN'):=zaD (zaj hf6 (λ_ _ h=>.inr h)) (.inl rfl) _
 have hfR:Fr (λk=>¬ R k) w (w6.setCell ⟨bb,2,none⟩ vN'):=zaj hf (λk _ e hR=>by
  rcases e with e | e
  ·exact h.nR.1 (e▸hR)
  ·exact h.nN k e hR)
 have hnt:∀ k,(k=bb\/vN.ownBlock=some k)->k≠tb:=λk e=>by
  rcases e with e | e
  ·exact e▸n2
  ·exact(n5 k e).2.2.1
 have hSb:∀ k,vN'.ownBlock=some k->k≠bb:=λk hk=>by
  rcases hv with e | e
  ·exact(n5 k (e▸hk)).1
  ·rw[e] at hk;cases hk;omega
 refine⟨⟨?_,zbb h.cl hfR,zbC h.rt (zaj hf (λk hk e=>⟨λhR=>?_,hnt k e⟩)),λk hk=>zsJ (h.rl k hk) hf.1,zhM h.met (hf.2.1 mb hml (λe=>?_)),h.len,zaC h.rowS hf (λk hk e=>?_),zeb h.stS hfR,?_,znL (zef h.stN hfR) (ziL hnx hfR),h.nS,λk hk hR=>?_,h.nR,h.lo.1,h.lo.2.1,h.lo.2.2.1,zsy h.lo.2.2.2 hf.1⟩,zaj hf (λk _ e=>?_)⟩
 ·have hbx6:w6.heap[bb]? = _:=(hf6.2.1 bb hbl (λe=>(n5 bb e).1 rfl)).trans h.box;rw[Wk.block_set hbx6 _];rfl
 ·rcases e with e | e
  ·exact h.nR.1 (e▸hR)
  ·exact h.nN k e hR
 ·rcases e with e | e
  ·exact n1 e.symm
  ·exact(n5 mb e).2.1 rfl
 ·rcases e with e | e
  ·exact(n4 k hk).1 e
  ·exact n6 k hk e
 ·rw[zsI];exact zaC hr (zaD (zax (λk=>k=bb) w6) (p:=⟨bb,2,none⟩) rfl vN') (λk hk e=>hSb k hk e)
 ·rcases hv with e | e
  ·exact h.nN k (e▸hk) hR
  ·rw[e] at hk;cases hk;have:=h.rl _ hR;omega
 ·rcases e with e | e
  ·exact e▸h.lo.1
  ·exact(zaH h.rowN e).1
end
theorem ze3(B gb:Nat)(G:Gm)(w:World)(hB:B<=w.heap.size)(h:GmB B w gb G):Calls Tryz.prog 88 #[.pointer (some ⟨gb,0,none⟩)] w λe w'=>e=.returned (itV (zaP G))/\Below w.heap.size w w':=by
 obtain⟨ka,kc,pa,pc,ra,rc,qa,qc,wa,wc,hlt,hbox,-⟩:=h;have g3:=zac hbox 3 rfl;have hgl:gb<w.heap.size:=by omega
 clear hbox;go_enter Tryz.func88,Tryz.ntmps88;go_wp2;refine bodyPost_ret (v:=itV (zaP G)) ?zz0 rfl ⟨rfl,?zz1⟩
 case zz0=>simp[results,Tryz.results88,go_sem,itV,zaP]
 case zz1=>exact(zsY _ _).alloc (zsG _) _
theorem zmy{G:Gm}{s:BM}{l:List It}{v:Int}(h:zh0 G s l=.error v):v≠0:=by
 unfold zh0 at h
 split at h
 ·cases h
 ·split at h
  ·cases h
  ·rename_i h2
   cases h
   exact h2
theorem zlD{G:Gm}{st:List It}{v:Int}:∀ {ys:List Int} {s:BM} {nx:List Int},goM G st ys s nx=.error v->v≠0
 | [],s,nx,h=>by cases h
 | y::ys,s,nx,h=>by
   unfold goM at h
   split at h
   ·rename_i w hw
    cases h
    exact zmy hw
   ·exact zlD h
theorem zsW{G:Gm}{s s':BM}{l:List It}{n:Nat}(h:zh0 G s l=.ok (s',n)):s.sts.length<=s'.sts.length:=by
 unfold zh0 at h
 split at h
 ·simp only[Except.ok.injEq,Prod.mk.injEq] at h;rw[<- h.1];exact zsG _
 ·split at h
  ·simp only[Except.ok.injEq,Prod.mk.injEq] at h;rw[<- h.1];simp
  ·cases h
theorem zqo{G:Gm}{st:List It}:∀ {ys:List Int} {s s':BM} {nx nx':List Int},goM G st ys s nx=.ok (s',nx')->s.sts.length<=s'.sts.length
 | [],s,s',nx,nx',h=>by
   simp only[goM,Except.ok.injEq,Prod.mk.injEq] at h;rw[<- h.1];exact zsG _
 | y::ys,s,s',nx,nx',h=>by
   unfold goM at h
   split at h
   ·cases h
   ·rename_i s2 n hn;exact zsy (zsW hn) (zqo h)
theorem zka{G:Gm}{f:Nat}{s:BM}{nxs:List (List Int)}{v:Int}(h:nxs.length<s.sts.length)(hg:goM G (s.sts.getD nxs.length []) (ysI G (s.sts.getD nxs.length [])) s (List.replicate (G.nk+G.nr) (-1))=.error v):zdq G (f+1) s nxs=.error v:=by
 rw[zdq,if_pos h,hg]
theorem zei{G:Gm}{f:Nat}{s s':BM}{nxs:List (List Int)}{nx:List Int}(h:nxs.length<s.sts.length)(hg:goM G (s.sts.getD nxs.length []) (ysI G (s.sts.getD nxs.length [])) s (List.replicate (G.nk+G.nr) (-1))=.ok (s',nx)):zdq G (f+1) s nxs=zdq G f s' (nxs ++ [nx]):=by
 rw[zdq,if_pos h,hg]
theorem zg0{G:Gm}{f:Nat}{s:BM}{nxs:List (List Int)}(h:¬ nxs.length<s.sts.length):zdq G f s nxs=.ok (s,nxs):=by
 cases f with
 | zero=>rfl
 | succ f=>exact if_neg h
def zfx(B0 B cb gb tb bb mb:Nat)(G:Gm)(w:World)(e:Ending)(w':World):Prop :=
 Fr (λk=>B0<=k) w w'/\match zcp G with
 | .error v=>e=.returned (.int .i64 v)
 | .ok (s,nxs)=>e=.returned (.int .i64 0)/\∃ (R':Nat->Prop) (vS vN:Value) (svs nvs:List Value),BdS R' B0 B cb gb tb bb mb G s.kers s.sts nxs s.cnt vS vN svs nvs w'
theorem zrn{bb mb tb B0:Nat}{vS vN:Value}{w w':World}{R:Nat->Prop}{B cb gb:Nat}{G:Gm}{kers sts:List (List It)}{nxs:List (List Int)}{cnt:Nat}{svs nvs:List Value}(h:BdS R B0 B cb gb tb bb mb G kers sts nxs cnt vS vN svs nvs w)(hf:Fr (BdF bb mb tb vS vN) w w'):Fr (λk=>B0<=k) w w':=zaj hf (λ_ _ hk=>zuU h hk)
theorem zrc(R:Nat->Prop)(B0 B cb gb tb bb mb:Nat)(G:Gm)(hG:GOk G)(vS vN:Value)(svs nvs:List Value)(w:World)(h:BdS R B0 B cb gb tb bb mb G [] [] [] 0 vS vN svs nvs w)(htab:Tb w.heap.size w)(hB1:0<B0) :
 Calls Tryz.prog 51 #[.pointer (some ⟨bb,0,none⟩)] w λe w'=>zfx B0 B cb gb tb bb mb G w e w':=by
 have c0:=zac h.box 0 rfl;obtain⟨na,nc,fa,fc,oa,oc,rc,hcbx,hRc,hgm,hBw,-⟩:=id h.cl;have d0:=zac hcbx 0 rfl;have hcl:=h.rl cb hRc;have hbl:=(zbW h).1;have htl:=(zbW h);have Hh:=zaa h;have Htab:=zaa htab;have Hgm:=zaa hgm;have HSI:=zaa (ze3 B gb G w hBw hgm);clear h htab hcbx hgm;unfold itV zaP at HSI;go_enter Tryz.func51,Tryz.ntmps51;go_wp2_with fail;refine(uh HSI).mono ?_;rintro e W1 ⟨rfl,hb1⟩;have h1:=zfu (uh Hh) hb1;have hs1:=hb1.size
 have HN:Hid (∀ W2:World,W2=W1.alloc (.cells #[.int .i64 (G.prods.length:Int),.int .i64 0,.int .i64 0] 57)->Calls Tryz.prog 87 #[.pointer (some ⟨bb,0,none⟩),.slice (some ⟨W1.heap.size,0,none⟩) 1 1] W2 λe w'=>zd0 R B0 B cb gb tb bb mb G [] [] [] 0 vS vN svs nvs [zaP G] W2 e w'/\BdS R B0 B cb gb tb bb mb G [] [] [] 0 vS vN svs nvs W2/\Below w.heap.size w W2):=zaa (λW2 hW2=>by
  have hb2:Below W1.heap.size W1 W2:=by rw[hW2];exact(zsY _ _).alloc (zsG _) _
  have hx2:W2.heap[W1.heap.size]? = some (.cells #[.int .i64 (G.prods.length:Int),.int .i64 0,.int .i64 0] 57 (0,0)):=by rw[hW2];exact zsH _ _
  have hbw:Below w.heap.size w W2:=hb1.trans (zab hb2 hs1);have h2:=zfu h1 hb2;have hlt:=(zsO.1 hx2).1
  refine(zhZ R B0 B cb gb tb bb mb G hG [] [] [] 0 (by omega) (by simp) (λm hm=>by simp at hm) vS vN svs nvs W2 h2 (zdz (uh Htab) (zsG _) hbw) (some ⟨W1.heap.size,0,none⟩) 1 [zaP G] (by simp) (λx hx=>by rw[List.mem_singleton.1 hx];exact ze4 hG) (.inr ⟨_,0,rfl,hlt,λj hj=>by
   obtain rfl:j=0:=by simp at hj;omega
   exact⟨zac hx2 0 rfl,zac hx2 1 rfl,zac hx2 2 rfl⟩⟩) (λx hx=>by
   cases hx
   exact λe7=>zeU h2 hx2 (by decide) (by decide) (by decide) (by decide) (.inl e7))).mono ?_
  exact λe w' h=>⟨h,h2,hbw⟩)
 clear HSI c0 d0 hb1 h1;go_wp2_with fail;refine(uh HN _ rfl).mono ?_;rintro e W3 ⟨hp,h2,hbw⟩;obtain⟨hf3,hp⟩:=zgS (s:=⟨[],[],0⟩) hp;have hfr3:Fr (λk=>B0<=k) w W3:=zcK (zae hbw) (zrn h2 hf3);rcases hp with ⟨v,hnum,hv0,rfl⟩ | ⟨s2,n2,hnum,rfl,R2,vS2,svs2,hbd2,g1,g2,g3⟩
 ·have Hf:Hid (zfx B0 B cb gb tb bb mb G w (.returned (.int .i64 v)) W3):=zaa ⟨hfr3,by unfold zcp;rw[hnum]⟩;have hv':(v != 0)=true:=by simpa using hv0
  clear hfr3 hnum h2 hbw hf3 HN;go_wp2;go_ret;exact uh Hf
 ·have hok:BmOk G s2:=zm8 ⟨rfl,by simp,by simp,λm hm=>by simp at hm⟩ (λx hx=>by rw[List.mem_singleton.1 hx];exact ze4 hG) hnum;have hsk:zxq G s2:=zl7 hG (λm hm=>by simp at hm) (λx hx=>by rw[List.mem_singleton.1 hx];exact ze4 hG) hnum;have HbE:Hid (zcp G=zdq G 4096 s2 []):=zaa (by unfold zcp;rw[hnum]);have Hok:=zaa hok;have Hsk:=zaa hsk;have Hbd2:=zaa hbd2;have Hfr3:=zaa hfr3;clear hok hsk hbd2 hfr3 hnum h2 hbw hf3 HN g1 g2 g3;go_wp2_with fail
  go_loopw [5] (λx wr=>∃ (s':BM) (nxs:List (List Int)) (R':Nat->Prop) (vS' vN':Value) (svs' nvs':List Value),x=.int .i64 (nxs.length:Nat)/\nxs.length<=s'.sts.length/\zcp G=zdq G (4096 - nxs.length) s' nxs/\BmOk G s'/\zxq G s'/\BdS R' B0 B cb gb tb bb mb G s'.kers s'.sts nxs s'.cnt vS' vN' svs' nvs' wr/\Fr (λk=>B0<=k) w wr) (λx _=>4097 - (intOf x).toNat)
  case atStart=>exact⟨s2,[],R2,vS2,vN,svs2,nvs,rfl,zsK _,uh HbE,uh Hok,uh Hsk,uh Hbd2,uh Hfr3⟩
  case round =>
   obtain⟨s',nxs,R',vS',vN',svs',nvs',rfl,hle,hgo,hok,hsk,hbd,hfr⟩:=hrel;have h4096:=hok.sts;have c1:=zac hbd.box 1 rfl;obtain⟨va,vc,rfl⟩:=zaf hbd.rowS;by_cases hlt:nxs.length<s'.sts.length
   ·have hltI:((nxs.length:Nat):Int)<(s'.sts.length:Int):=by omega
    obtain⟨ia,ic,hsv,hir⟩:=hbd.stS.2 nxs.length hlt;have hstm:s'.sts.getD nxs.length [] ∈ s'.sts:=by rw[zsE,zsF hlt];exact List.getElem_mem hlt
    obtain⟨hl6,hit⟩:=hsk _ hstm;have hgoE:(∀ v,goM G (s'.sts.getD nxs.length []) (ysI G (s'.sts.getD nxs.length [])) s' (List.replicate (G.nk+G.nr) (-1))=.error v->zcp G=.error v)/\∀ s3 nx,goM G (s'.sts.getD nxs.length []) (ysI G (s'.sts.getD nxs.length [])) s' (List.replicate (G.nk+G.nr) (-1))=.ok (s3,nx)->zcp G=zdq G (4096 - (nxs.length+1)) s3 (nxs ++ [nx]):=by
     obtain⟨f,hf⟩:∃ f,f=4096 - (nxs.length+1):=⟨_,rfl⟩;have e:4096 - nxs.length=f+1:=by omega
     rw[hgo,e,<- hf];exact⟨λv hv=>zka hlt hv,λs3 nx hv=>zei hlt hv⟩
    obtain⟨g,rfl⟩:∃ g,va=some ⟨g,0,none⟩:=by
     rcases hbd.rowS.2 with ⟨-,h0⟩ | ⟨g,cap,cur,e8,-⟩
     ·omega
     ·exact⟨g,by simpa using (Value.slice.inj e8).1⟩
    have q0:=hbd.rowS.cells (g:=g) rfl nxs.length _ hsv;rw[show (⟨g,0,none⟩:Addr).add nxs.length=⟨g,0+nxs.length,none⟩ by unfold Addr.add;split <;> simp_all,Nat.zero_add] at q0;have HG:=zaa (ztB R' B0 B cb gb tb bb mb G hG s' hok nxs (.slice (some ⟨g,0,none⟩) s'.sts.length vc) vN' svs' nvs' wr hbd (tb_fr (uh Htab) hfr (λh9=>by omega)) ia ic (s'.sts.getD nxs.length []) (by omega) hit (zn0 hir hbd.rl) hB1);obtain⟨st,hst⟩:∃ st,st=s'.sts.getD nxs.length []:=⟨_,rfl⟩;rw[<- hst] at HG hgoE q0 hit;have Hgo:=zaa hgo;have HgoE:=zaa hgoE;have Hsk5:=zaa hsk;have Hbd:=zaa hbd;have Hfr:=zaa hfr;have Hit:=zaa hit;clear hgo hgoE hok hsk hbd hfr hit hst hstm hsv hir HbE Hok Hsk Hbd2 Hfr3;go_wp2_with fail;refine(uh HG).mono ?_;rintro e w7 ⟨hf7,hp⟩;have hfr7:Fr (λk=>B0<=k) w w7:=zcK (uh Hfr) (zrn (uh Hbd) hf7);obtain⟨r,hr⟩:∃ r,r=goM G st (ysI G st) s' (List.replicate (G.nk+G.nr) (-1)):=⟨_,rfl⟩;rw[<- hr] at hp;have HgE:=uh HgoE;rw[<- hr] at HgE;have Hstk:Hid (∀ s3 nx,r=.ok (s3,nx)->zxq G s3):=zaa (λs3 nx e=>zo0 hG (uh Hit) (uh Hsk5) (hr.symm.trans e));have HgV:=zaa hr.symm;clear hr
    cases r with
    | error v =>
      obtain rfl:=hp;have Hf:Hid (zfx B0 B cb gb tb bb mb G w (.returned (.int .i64 v)) w7):=zaa ⟨hfr7,by rw[HgE.1 v rfl]⟩;have hv0:(v != 0)=true:=by
       have:=zlD (uh HgV);simpa using this
      clear hfr7 hf7 HgE HG Hgo HgoE;go_wp2;go_ret;exact uh Hf
    | ok r =>
      obtain⟨s3,nx⟩:=r;have HgL:=HgV;obtain⟨nb,rfl,hnbs,hnl,hnx7,hok3,R3,vS3,svs3,hbd3,g1,g2,g3⟩:=hp;have hwz:=(uh Hbd).lo.2.2.2;have hnbF:¬ BdF bb mb tb vS3 vN' nb:=zeU hbd3 hnx7 (by decide) (by decide) (by decide) (by decide);have hbd4:=zrm hbd3 (zsO.1 hnx7).1 (λe=>hnbF (.inl e)) (λe=>hnbF (.inr (.inl e))) (λe=>hnbF (.inr (.inr (.inl e)))) (λe=>hnbF (.inr (.inr (.inr (.inl e))))) (λe=>hnbF (.inr (.inr (.inr (.inr e)))))
      have hnr:zkL (λk=>R3 k\/k=nb) w7 (some ⟨nb,0,none⟩) nx:=.inr ⟨nb,0,rfl,.inr rfl,λj hj=>Wk.cell_block hnx7 (0+j) _ (by
       rw[Nat.zero_add,List.getElem?_toArray];unfold zao;rw[List.getElem?_map,zsE,zsF hj];rfl)⟩
      obtain⟨ta,tc,rfl⟩:=zaf hbd4.rowN;obtain⟨i0,hi0,hz0,hz1,hz2⟩:=zah zf1;have e2:=zac hbd4.box 2 rfl;have hbl7:=(zbW hbd4).1;have hsz7:=hbd4.lo.2.2.2;have HgE2:=zaa (HgE.2 s3 nx rfl);have Hstk2:=zaa (uh Hstk s3 nx rfl);have Hbd4:=zaa hbd4;have Hnr:=zaa hnr;have Hok3:=zaa hok3;have Hfr7:=zaa hfr7;have HrowN:=zaa hbd4.rowN;have hnne:nxs.length<4096:=by omega
      clear hbd3 g1 g2 g3 hbd4 hnr hnx7 hnbF hok3 hfr7 hf7 HgE HG Hgo HgoE Hstk;go_wp2_with (at_builtin;refine wpList_append_own_at _ rfl _ _ 43 rfl B0 50 i0 (.slice none 0 0) 1 24 Tryz.underlying43 hi0 hz0 hz1 hz2 rfl (by decide) _ nxs.length nvs' rfl ((uh HrowN).alloc (.cells #[.slice (some ⟨nb,0,none⟩) (G.nk+G.nr) (G.nk+G.nr)] 50)) ⟨w7.heap.size,0,none⟩ 1 1 [.slice (some ⟨nb,0,none⟩) (G.nk+G.nr) (G.nk+G.nr)] rfl rfl ?qc2 ?qc3 ?qc4 ?qc5 ?qc6 ?_)
      case qc2=>intro i u hi;exact World.news_of_block (zsH w7 _) i u hi
      case qc3=>intro u hu;simp at hu;rw[hu];rfl
      case qc4=>unfold maxLen;omega
      case qc5=>omega
      case qc6=>simp;omega
      intro v' w8 hown8 hg8 hnil8 hat8;obtain⟨ua,uc,rfl⟩:=zaf hown8;have hbx8:=(hg8.block bb (by simp;omega) (λe=>((zbW (uh Hbd4)).2.2.2.2.2.2.1 bb e.symm).1 rfl)).trans ((zsZ w7 _ _ hbl7).trans (uh Hbd4).box);have e8:=zac hbx8 2 rfl;have z8:=Wk.frozen_block hbx8 2;have hnx9:=zuf (uh Hbd4) (uh Hnr) (c:=G.nk+G.nr) (.cells #[.slice (some ⟨nb,0,none⟩) (G.nk+G.nr) (G.nk+G.nr)] 50) (by rw[hnl];exact hown8) hg8 (by simpa using hat8);have Hnx9:=zaa hnx9;have hgl:=zqo (uh HgL);clear hbx8 hown8 hg8 hnil8 hat8 hnx9 HrowN;go_wp2;go_roundw
      case rel=>exact⟨s3,nxs ++ [nx],_,_,_,_,_,by simp,by simp;omega,by rw[zsI];exact uh HgE2,uh Hok3,uh Hstk2,(uh Hnx9).1,zcK (uh Hfr7) (uh Hnx9).2⟩
      case measure=>simp[intOf];omega
   ·have hltI:¬ ((nxs.length:Nat):Int)<(s'.sts.length:Int):=by omega
    have Hf:Hid (zfx B0 B cb gb tb bb mb G w (.returned (.int .i64 0)) wr):=zaa (by
     refine⟨hfr,?_⟩;rw[hgo,zg0 hlt]
     exact⟨rfl,R',_,vN',svs',nvs',hbd⟩)
    clear hgo hok hsk hbd hfr HbE Hok Hsk Hbd2 Hfr3;go_wp2;go_ret;exact uh Hf
end Go.Proofs.YtieciibnajeibaaGreatDoor
namespace Go.Proofs.YtieciibnajeibaaGreatDoor
open Go.RowKit
variable{G:Gm}{L:Nat->Bool}{k:Nat}{l:List It}
theorem zm3(hG:GOk G)(l:List It):clL G (clL G l)=clL G l :=
 (zwP hG (zeD G l) (λ_ h=>h) (λ_ h=>.inl h) (λ_ hx r hr k hn hk p hp hl=>(zcE hG).2 (.inr ⟨p,k,rfl,hp,hn,r,hl,dm_in ((zcE hG).1 hx) hr hn hk⟩))).symm
theorem zkz(hG:GOk G){x:It}(h:x ∈ l):x ∈ clL G l:=(zcE hG).2 (.inl h)
theorem zji(hG:GOk G)(h:UpI l)(hn:∀ x,x ∈ l->∀ r:Nat,zdh G x≠some ((G.nk:Int)+r)):clL G l=l :=
 (zwP hG h (λ_ h=>h) (λ_ h=>.inl h) (λx hx r hr=>absurd hr (hn x hx r))).symm
theorem zgy(hG:GOk G){st:List It}(hst:∀ x,x ∈ st->zcv G x=true):ysI G st=((List.range (G.nk+G.nr)).filter λq=>decide (zcb G st q≠[])).map λ(q:Nat)=>(q:Int):=by
 have hk3:=hG.k3;have hr2:=hG.r2;have e:(List.range bigN).filter (λq=>decide (zcb G st q≠[]))=(List.range (G.nk+G.nr)).filter λq=>decide (zcb G st q≠[]):=by
  refine zck (λk hk=>?_) _ (by rw[zhm];omega);have hk:=of_decide_eq_true hk;obtain⟨z,hz⟩:=List.exists_mem_of_ne_nil _ hk;unfold zcb at hz;obtain⟨u,hu,-⟩:=List.mem_map.1 hz;obtain⟨hu1,hu2⟩:=List.mem_filter.1 hu;have hu2:=of_decide_eq_true hu2;obtain⟨e1,e2,-⟩:=of_decide_eq_true (hst u hu1);unfold zdh at hu2;have:=zbe hG e1 e2 _ (List.mem_of_getElem? hu2);unfold Gm.nk Gm.nr;omega
 unfold ysI;rw[e]
theorem zgq{s:BM}{S:List It}(hn:l ∉ s.kers)(hc:clL G l=S)(hS:S.length<=65536)(h:s.cnt+S.length<=1048576)(h2:s.sts.length≠4096):zh0 G s l=.ok (⟨s.kers ++ [l],s.sts ++ [S],s.cnt+S.length⟩,s.sts.length):=by
 have h1:clR G l=S:=by unfold clR;rw[hc,if_pos hS]
 have h3:clV G l=0:=by unfold clV;rw[hc,if_pos hS]
 have h4:zpG G s.cnt s.sts.length l=0:=by unfold zpG;rw[h3,if_pos rfl,h1,if_neg (by omega),if_neg h2]
 unfold zh0;rw[if_neg hn,if_pos h4,h1]
def gSm:Gm:=⟨[[101,110,100],[101,114,114,111,114],[97]],[(0,0),(0,0),(0,0)],[[83]],[⟨0,[3,2],0,ac0⟩,⟨0,[2],0,ac0⟩],0⟩
theorem zfn:zbK gSm=true:=by decide
theorem zfm:GOk gSm:=zb8 zfn
def sm0:List It:=[(0,0,0),(0,0,2),(1,0,0),(1,0,2),(2,0,0)]
def sm1:List It:=[(1,1,0),(1,1,2)]
def sm2:List It:=[(0,1,0),(0,1,2),(2,1,0)]
def sm3:List It:=[(0,2,0),(0,2,2)]
theorem up_sm0:UpI sm0:=by unfold UpI sm0;decide
theorem up_sm1:UpI sm1:=by unfold UpI sm1;decide
theorem up_sm2:UpI sm2:=by unfold UpI sm2;decide
theorem up_sm3:UpI sm3:=by unfold UpI sm3;decide
theorem zp1(h:zb2 G [] L k=true):L k=true:=by
 unfold zb2 at h;simpa [zet,zar] using h
theorem zuB(h:zb2 gSm [2] L k=true):k=2:=by
 unfold zb2 at h;have e1:zet gSm.nk (zat gSm) (zdy gSm) [2] k=decide (k=2):=rfl;have e2:zar gSm.nk (zat gSm) [2]=false:=rfl;rw[e1,e2] at h;simpa using h
theorem znT(h:L k=true):zb2 G [] L k=true:=by
 unfold zb2;simp[zet,zar,h]
theorem zv5:zb2 gSm [2] L 2=true:=rfl
theorem zuJ:Dm gSm [zaP gSm] 0 0:=.base (zaP gSm) (by simp) 0 rfl 0 (znT rfl) (by decide)
theorem dm_sm2:Dm gSm [zaP gSm] 0 2:=.step 0 0 zuJ 0 (by decide) rfl 0 rfl 2 zv5 (by decide)
theorem ztt{p:Nat}(hp:p<2)(hk:k=0\/k=2):zxI gSm [zaP gSm] ((p:Int),0,(k:Int)):=by
 refine .inr ⟨p,k,rfl,hp,by rcases hk with rfl | rfl <;> decide,0,?_,?_⟩
 ·match p,hp with
  | 0,_=>rfl
  | 1,_=>rfl
 ·rcases hk with rfl | rfl
  ·exact zuJ
  ·exact dm_sm2
theorem cl_sm0:clL gSm [zaP gSm]=sm0:=by
 refine(zwP zfm up_sm0 (λx hx=>?_) (λx hx=>?_) (λx hx r hr k hn hk p hp hl=>?_)).symm
 ·rw[List.mem_singleton.1 hx];decide
 ·unfold sm0 at hx;simp only[List.mem_cons,List.not_mem_nil,or_false] at hx;rcases hx with rfl | rfl | rfl | rfl | rfl
  ·exact ztt (p:=0) (k:=0) (by decide) (.inl rfl)
  ·exact ztt (p:=0) (k:=2) (by decide) (.inr rfl)
  ·exact ztt (p:=1) (k:=0) (by decide) (.inl rfl)
  ·exact ztt (p:=1) (k:=2) (by decide) (.inr rfl)
  ·exact .inl (by decide)
 ·have hk2:k=0\/k=2:=by
   unfold sm0 at hx;simp only[List.mem_cons,List.not_mem_nil,or_false] at hx;rcases hx with rfl | rfl | rfl | rfl | rfl
   ·exact .inr (zuB hk)
   ·exact .inr (zuB hk)
   ·have h2:(2:Int)=(gSm.nk:Int)+r:=Option.some.inj (show some (2:Int)=_ from hr);have h3:gSm.nk=3:=rfl;omega
   ·have h2:(2:Int)=(gSm.nk:Int)+r:=Option.some.inj (show some (2:Int)=_ from hr);have h3:gSm.nk=3:=rfl;omega
   ·have:=of_decide_eq_true (zp1 hk);left;simp only at this;omega
  have hp2:p=0\/p=1:=by have:p<2:=hp;omega
  rcases hk2 with rfl | rfl <;> rcases hp2 with rfl | rfl <;> decide
theorem zlH(h:∀ x,x ∈ l->zdh gSm x=none\/zdh gSm x=some 2):∀ x,x ∈ l->∀ r:Nat,zdh gSm x≠some ((gSm.nk:Int)+r):=λx hx r e=>by
 rcases h x hx with h | h
 ·rw[h] at e;cases e
 ·rw[h] at e;have h2:=Option.some.inj e;have h3:gSm.nk=3:=rfl;omega
theorem cl_sm1:clL gSm sm1=sm1:=zji zfm up_sm1 (zlH (by decide))
theorem cl_sm2:clL gSm sm2=sm2:=zji zfm up_sm2 (zlH (by decide))
theorem cl_sm3:clL gSm sm3=sm3:=zji zfm up_sm3 (zlH (by decide))
theorem ztq(h:zdv gSm l=true):∀ x,x ∈ l->zcv gSm x=true:=areIt_iff.1 h
theorem ys_sm0:ysI gSm sm0=[2,3]:=by rw[zgy zfm (ztq (by decide))];decide
theorem ys_sm1:ysI gSm sm1=[]:=by rw[zgy zfm (ztq (by decide))];decide
theorem ys_sm2:ysI gSm sm2=[2]:=by rw[zgy zfm (ztq (by decide))];decide
theorem ys_sm3:ysI gSm sm3=[]:=by rw[zgy zfm (ztq (by decide))];decide
def smN:List (List Int):=[[-1,-1,1,2],[-1,-1,-1,-1],[-1,-1,3,-1],[-1,-1,-1,-1]]
def smB:BM:=⟨[[zaP gSm],sm1,sm2,sm3],[sm0,sm1,sm2,sm3],12⟩
theorem mov02:zcb gSm sm0 2=sm1:=by decide
theorem mov03:zcb gSm sm0 3=sm2:=by decide
theorem mov22:zcb gSm sm2 2=sm3:=by decide
theorem go_sm0:goM gSm sm0 [2,3] ⟨[[zaP gSm]],[sm0],5⟩ [-1,-1,-1,-1]=.ok (⟨[[zaP gSm],sm1,sm2],[sm0,sm1,sm2],10⟩,[-1,-1,1,2]):=by
 have e1:=zgq (G:=gSm) (s:=⟨[[zaP gSm]],[sm0],5⟩) (l:=sm1) (by decide) cl_sm1 (by decide) (by decide) (by decide);have e2:=zgq (G:=gSm) (s:=⟨[[zaP gSm],sm1],[sm0,sm1],7⟩) (l:=sm2) (by decide) cl_sm2 (by decide) (by decide) (by decide);unfold goM;rw[show zcb gSm sm0 (2:Int).toNat=sm1 from mov02,e1];show goM gSm sm0 [3] ⟨[[zaP gSm],sm1],[sm0,sm1],7⟩ [-1,-1,1,-1]=_;unfold goM;rw[show zcb gSm sm0 (3:Int).toNat=sm2 from mov03,e2];rfl
theorem go_sm2:goM gSm sm2 [2] ⟨[[zaP gSm],sm1,sm2],[sm0,sm1,sm2],10⟩ [-1,-1,-1,-1]=.ok (smB,[-1,-1,3,-1]):=by
 have e1:=zgq (G:=gSm) (s:=⟨[[zaP gSm],sm1,sm2],[sm0,sm1,sm2],10⟩) (l:=sm3) (by decide) cl_sm3 (by decide) (by decide) (by decide);unfold goM;rw[show zcb gSm sm2 (2:Int).toNat=sm3 from mov22,e1];rfl
theorem zm7:zcp gSm=.ok (smB,smN):=by
 have e0:=zgq (G:=gSm) (s:=⟨[],[],0⟩) (l:=[zaP gSm]) (by simp) cl_sm0 (by decide) (by decide) (by decide);unfold zcp;rw[e0];show zdq gSm (4095+1) ⟨[[zaP gSm]],[sm0],5⟩ []=_;rw[zei (s':=⟨[[zaP gSm],sm1,sm2],[sm0,sm1,sm2],10⟩) (nx:=[-1,-1,1,2]) (by decide) (by show goM gSm sm0 (ysI gSm sm0) _ [-1,-1,-1,-1]=_;rw[ys_sm0];exact go_sm0)];show zdq gSm (4094+1) _ _=_;rw[zei (s':=⟨[[zaP gSm],sm1,sm2],[sm0,sm1,sm2],10⟩) (nx:=[-1,-1,-1,-1]) (by decide) (by show goM gSm sm1 (ysI gSm sm1) _ [-1,-1,-1,-1]=_;rw[ys_sm1];rfl)];show zdq gSm (4093+1) _ _=_;rw[zei (s':=smB) (nx:=[-1,-1,3,-1]) (by decide) (by show goM gSm sm2 (ysI gSm sm2) _ [-1,-1,-1,-1]=_;rw[ys_sm2];exact go_sm2)];show zdq gSm (4092+1) _ _=_;rw[zei (s':=smB) (nx:=[-1,-1,-1,-1]) (by decide) (by show goM gSm sm3 (ysI gSm sm3) _ [-1,-1,-1,-1]=_;rw[ys_sm3];rfl)];rw[zg0 (by decide)];rfl
open Go.Lib
def zni(G:Gm)(st:List It):Prop:=zdv G st=true/\UpI st
theorem zw2:∀ args W,Sem.run Tryz.prog (callFunc 95 args) W=.ok (.enter 95 args) W:=λ_ _=>by simp[callFunc,Tryz.func95,Tryz.f95,go_sem,Result.andThen]
theorem zq5(B xb gb:Nat)(G:Gm)(hG:GOk G)(a:Option Addr)(c:Nat)(l:List It)(hl:l.length<=281474976710656)(w:World)(hB:B<=w.heap.size)(hg:GmB B w gb G)(hx:w.heap[xb]? = some (.cells #[.pointer (some ⟨gb,0,none⟩)] 61 (0,0)))(h:zcy w.heap.size w a l) :
 Calls Tryz.prog 95 (#[.slice a l.length c] ++ #[.pointer (some ⟨xb,0,none⟩)]) w λe w'=>(∃ r:Bool,e=.returned (.bool r)/\(r=true↔¬ zni G l))/\Below w.heap.size w w':=by
 have c0:=zac hx 0 rfl;have HI:=zaa (zfi w.heap.size gb G hG a c l hl w (zsG _) (zkp hg hB) h);have HR:=zaa (λ(W:World) (hb:Below w.heap.size w W)=>zph a c l hl W (zaI (zaw hb h) hb.size));show Calls Tryz.prog 95 #[.slice a l.length c,.pointer (some ⟨xb,0,none⟩)] w _;clear hg hx h
 cases hv:zdv G l with
 | false =>
   rw[hv] at HI;have Hf:=zaa (show ¬ zni G l from λh=>by have h1:=h.1;rw[hv] at h1;cases h1);clear HR hv;go_enter Tryz.func95,Tryz.ntmps95;go_wp2_with fail;refine(uh HI).mono ?_;rintro e w2 ⟨rfl,hb2⟩;have Hb:=zaa hb2;clear hb2 HI;go_wp2;go_ret;exact⟨⟨true,rfl,⟨λ_=>uh Hf,λ_=>rfl⟩⟩,uh Hb⟩
 | true =>
   rw[hv] at HI;have HP:Hid (UpI l->zni G l):=zaa (λh=>⟨hv,h⟩);clear hv;go_enter Tryz.func95,Tryz.ntmps95;go_wp2_with fail;refine(uh HI).mono ?_;rintro e w2 ⟨rfl,hb2⟩;have HR2:=zaa (uh HR w2 hb2);have Hb:=zaa hb2;have hs2:=hb2.size;clear hb2 HI HR;go_wp2_with fail;refine(uh HR2).mono ?_;rintro e w3 ⟨⟨r,rfl,hr⟩,hb3⟩;have Hb3:=zaa ((uh Hb).trans (zab hb3 hs2))
   cases r with
   | false =>
     have Hf:=zaa (show ¬ zni G l from λh=>by have:=hr.2 h.2;cases this);clear hr hb3 HR2;go_wp2;go_ret;exact⟨⟨true,rfl,⟨λ_=>uh Hf,λ_=>rfl⟩⟩,uh Hb3⟩
   | true =>
     have Hf:=zaa (uh HP (hr.1 rfl));clear hr hb3 HR2;go_wp2;go_ret;exact⟨⟨false,rfl,⟨(λh=>absurd h (by decide)),λh=>absurd (uh Hf) h⟩⟩,uh Hb3⟩
theorem ztw(B xb gb:Nat)(G:Gm)(hG:GOk G)(a:Option Addr)(c:Nat)(ls:List (List It))(hl:ls.length<=281474976710656)(w:World)(hB:B<=w.heap.size)(hg:GmB B w gb G)(hx:w.heap[xb]? = some (.cells #[.pointer (some ⟨gb,0,none⟩)] 61 (0,0)))(h:zev w.heap.size w a ls) :
 Calls Tryz.prog 139 #[.slice a ls.length c,.func (.func 95) #[] #[.pointer (some ⟨xb,0,none⟩)]] w λe w'=>∃ i:Int,e=.returned (.int .i64 i)/\(0<=i↔∃ j,j<ls.length/\¬ zni G (ls.getD j []))/\Below w.heap.size w w':=by
 have H:=zaa h;have Hg:=zaa hg;have Hx:=zaa hx;have hxl:=(zsO.1 hx).1;have hcf:=zw2;clear h hg hx;go_enter Tryz.func139,Tryz.ntmps139;go_wp2_with fail
 go_loopw [8] (λx wr=>∃ k:Nat,x=.int .i64 (k:Int)/\k<=ls.length/\(∀ j,j<k->zni G (ls.getD j []))/\Below w.heap.size w wr) (λx _=>ls.length - (intOf x).toNat)
 case atStart=>exact⟨0,rfl,zsK _,λj hj=>absurd hj (Nat.not_lt_zero _),zsY _ _⟩
 case round =>
  obtain⟨k,rfl,hk,hok,hb⟩:=hrel;have hsz:=hb.size;have Hok:=zaa hok;have Hb:=zaa hb;clear hok hb;by_cases hlt:k<ls.length
  ·have hlt':(k:Int)<(ls.length:Int):=by omega
   obtain⟨b,off,ia,ic,rfl,hbl,q0,hrow,hlen⟩:=zdp (zaU (uh Hb) (uh H)) hlt;have HC:=zaa (zq5 B xb gb G hG ia ic (ls.getD k []) hlen wr (by omega) (zaX (zab (uh Hb) hB) (uh Hg)) (((uh Hb).block _ hxl).trans (uh Hx)) (zaI hrow hsz))
   have Hnx:Hid (zni G (ls.getD k [])->∀ j,j<k+1->zni G (ls.getD j [])):=zaa (λh9 j hj=>by
    by_cases e:j=k
    ·rw[e];exact h9
    ·exact uh Hok j (by omega))
   have Hno:Hid (¬ zni G (ls.getD k [])->∃ j,j<ls.length/\¬ zni G (ls.getD j [])):=zaa (λh9=>⟨k,hlt,h9⟩);clear hrow hlen;generalize ls.getD k []=r at *;go_wp2_with fail;refine(uh HC).mono ?_;rintro e w2 ⟨⟨rv,rfl,hr⟩,hb2⟩;have Hb2:=zaa ((uh Hb).trans (zab hb2 hsz))
   cases rv with
   | true =>
     have Hf:=zaa (uh Hno (hr.1 rfl));clear hr hb2 HC Hnx Hno;go_wp2;go_ret;exact⟨k,rfl,⟨λ_=>uh Hf,λ_=>by omega⟩,uh Hb2⟩
   | false =>
     have Hf:=zaa (uh Hnx (Classical.not_not.1 (λh=>by have:=hr.2 h;cases this)));clear hr hb2 HC Hnx Hno;go_wp2;go_roundw
     case rel=>exact⟨k+1,by go_num,by omega,uh Hf,uh Hb2⟩
     case measure=>simp[intOf];omega
  ·have hlt':¬ (k:Int)<(ls.length:Int):=by omega
   obtain rfl:k=ls.length:=by omega
   go_wp2;go_ret;exact⟨-1,rfl,⟨λh=>by omega,fun⟨j,h1,h2⟩=>absurd (uh Hok j h1) h2⟩,uh Hb⟩
theorem zmZ(B xb gb:Nat)(G:Gm)(hG:GOk G)(a:Option Addr)(c:Nat)(ls:List (List It))(hl:ls.length<=281474976710656)(w:World)(hB:B<=w.heap.size)(hg:GmB B w gb G)(hx:w.heap[xb]? = some (.cells #[.pointer (some ⟨gb,0,none⟩)] 61 (0,0)))(h:zev w.heap.size w a ls) :
 Calls Tryz.prog 94 #[.slice a ls.length c,.func (.func 95) #[] #[.pointer (some ⟨xb,0,none⟩)]] w λe w'=>(∃ r:Bool,e=.returned (.bool r)/\(r=true↔∃ j,j<ls.length/\¬ zni G (ls.getD j [])))/\Below w.heap.size w w':=by
 have HI:=zaa (ztw B xb gb G hG a c ls hl w hB hg hx h);clear hg hx h;go_enter Tryz.func94,Tryz.ntmps94;go_wp2_with fail;refine(uh HI).mono ?_;rintro e w2 ⟨i,rfl,hi,hb2⟩;have Hi:=zaa hi;have Hb:=zaa hb2;clear hi hb2 HI;go_wp2;go_ret;exact⟨⟨decide (0<=i),rfl,by rw[decide_eq_true_eq];exact uh Hi⟩,uh Hb⟩
end Go.Proofs.YtieciibnajeibaaGreatDoor
namespace Go.Proofs.YtieciibnajeibaaGreatDoor
open Go.RowKit Go.Maps
theorem zhC(R:Nat->Prop)(B cb gb tb B0:Nat)(G:Gm)(w:World)(hcl:ClB R B w cb gb tb G)(hrt:RsT R w G tb)(hR:∀ k,R k->k<w.heap.size)(hB0:B0<=tb)(htl:tb<w.heap.size) :
 Calls Tryz.prog 50 #[.pointer (some ⟨cb,0,none⟩)] w λe w'=>∃ bb mb,e=.returned (.pointer (some ⟨bb,0,none⟩))/\Below w.heap.size w w'/\BdS R B0 B cb gb tb bb mb G [] [] [] 0 (.slice none 0 0) (.slice none 0 0) [] [] w':=by
 have Hf:Hid (∀ W:World,W=(w.alloc (.map #[] 0)).alloc (.cells #[.pointer (some ⟨cb,0,none⟩),.slice none 0 0,.slice none 0 0,.map (some w.heap.size),.int .i64 0] 91)->Below w.heap.size w W/\BdS R B0 B cb gb tb (w.heap.size+1) w.heap.size G [] [] [] 0 (.slice none 0 0) (.slice none 0 0) [] [] W):=zaa (λW hW=>by
  obtain⟨W1,hW1⟩:∃ W1,W1=w.alloc (.map #[] 0):=⟨_,rfl⟩;have hb1:Below w.heap.size w W1:=by rw[hW1];exact(zsY _ _).alloc (zsG _) _
  have hs1:W1.heap.size=w.heap.size+1:=by rw[hW1];simp
  have hm1:TxM W1 w.heap.size []:=by rw[hW1];exact zu9 w
  rw[<- hW1] at hW;have hb2:Below W1.heap.size W1 W:=by rw[hW];exact(zsY _ _).alloc (zsG _) _
  have hs2:W.heap.size=w.heap.size+1+1:=by rw[hW];simp;omega
  have hx:=zsH W1 (.cells #[.pointer (some ⟨cb,0,none⟩),.slice none 0 0,.slice none 0 0,.map (some w.heap.size),.int .i64 0] 91);rw[<- hW,hs1] at hx;have hb:Below w.heap.size w W:=hb1.trans (zab hb2 hb1.size);have hm2:=zhM hm1 (hb2.block w.heap.size (by omega))
  refine⟨hb,hx,zbb hcl (zae hb),zbC hrt (zae hb),λk hk=>by have:=hR k hk;omega,hm2,rfl,World.ownsRow_nil _ _ _ _,⟨rfl,λi hi=>absurd hi (Nat.not_lt_zero _)⟩,World.ownsRow_nil _ _ _ _,⟨rfl,λi hi=>absurd hi (Nat.not_lt_zero _)⟩,λk hk=>by simp[Value.ownBlock] at hk,λk hk=>by simp[Value.ownBlock] at hk,⟨λh9=>by have:=hR _ h9;omega,λh9=>by have:=hR _ h9;omega⟩,by omega,by omega,hB0,by omega⟩)
 have qk:=λw:World=>run_makeMap (P:=Tryz.prog) 89 w;go_enter Tryz.func50,Tryz.ntmps50;go_wp2_with fail;refine bodyPost_ret (v:=.pointer (some ⟨w.heap.size+1,0,none⟩)) ?zz0 rfl ⟨_,_,rfl,uh Hf _ rfl⟩
 case zz0=>simp[results,Tryz.results50,go_sem]
theorem zh1{G:Gm}{v:Int}:∀ {f:Nat} {s:BM} {nxs:List (List Int)},zdq G f s nxs=.error v->v≠0
 | 0,s,nxs,h=>by cases h
 | f+1,s,nxs,h=>by
   rw[zdq] at h
   split at h
   ·split at h
    ·rename_i w hw
     cases h
     exact zlD hw
    ·exact zh1 h
   ·cases h
theorem zok{G:Gm}{v:Int}(h:zcp G=.error v):v≠0:=by
 unfold zcp at h
 split at h
 ·rename_i w hw
  cases h
  exact zmy hw
 ·exact zh1 h
variable{B b:Nat}{R:Nat->Prop}{W w:World}{a:Option Addr}{nxs:List (List Int)}{sts:List (List It)}{v:Value}{vs:List Value}
theorem zkC{k:Nat}{q:IntKind}{n:Int}(hx:W.heap[b]? = some (.cells #[.slice none 0 0,.slice none 0 0] 45 (0,0)))(h:W.cell? ⟨b,k,none⟩=some (.int q n)):False:=by
 rcases k with _ | _ | k
 ·rw[zac hx 0 rfl] at h;cases h
 ·rw[zac hx 1 rfl] at h;cases h
 ·simp[World.cell?,hx] at h
theorem zvg(hx:W.heap[b]? = some (.cells #[.slice none 0 0,.slice none 0 0] 45 (0,0)))(h:zhs R W vs sts):zhs (λk=>R k/\k≠b) W vs sts:=⟨h.1,λi hi=>by
 obtain⟨a,c,h1,h2⟩:=h.2 i hi;refine⟨a,c,h1,?_⟩;rcases h2 with h2 | ⟨b',off,g1,g2,g3⟩
 ·exact .inl h2
 ·by_cases e:sts.getD i []=[]
  ·exact .inl e
  ·refine .inr ⟨b',off,g1,⟨g2,λe2=>?_⟩,g3⟩;have:=(g3 0 (List.length_pos_iff.2 e)).1;rw[e2] at this
   exact zkC hx this⟩
theorem zvK(hx:W.heap[b]? = some (.cells #[.slice none 0 0,.slice none 0 0] 45 (0,0)))(h:zht R W vs nxs):zht (λk=>R k/\k≠b) W vs nxs:=⟨h.1,λi hi=>by
 obtain⟨a,c,h1,h2⟩:=h.2 i hi;refine⟨a,c,h1,?_⟩;rcases h2 with h2 | ⟨b',off,g1,g2,g3⟩
 ·exact .inl h2
 ·by_cases e:nxs.getD i []=[]
  ·exact .inl e
  ·refine .inr ⟨b',off,g1,⟨g2,λe2=>?_⟩,g3⟩;have:=g3 0 (List.length_pos_iff.2 e);rw[e2] at this
   exact zkC hx this⟩
def zcU(G:Gm)(w:World)(e:Ending)(w':World):Prop :=
 Below w.heap.size w w'/\if zbK G then match zcp G with
  | .error v=>e=.returned (.tuple #[.agg #[.slice none 0 0,.slice none 0 0],.int .i64 v])
  | .ok (s,nxs)=>∃ (R':Nat->Prop) (vS vN:Value) (svs nvs:List Value),e=.returned (.tuple #[.agg #[vS,vN],.int .i64 0])/\(∀ k,R' k->k<w'.heap.size)/\w'.ownsRow w.heap.size 27 1 vS s.sts.length svs/\zhs R' w' svs s.sts/\w'.ownsRow w.heap.size 50 1 vN nxs.length nvs/\zht R' w' nvs nxs
 else e=.returned (.tuple #[.agg #[.slice none 0 0,.slice none 0 0],.int .i64 130])
theorem zkI(hLY:zd3 64)(G:Gm)(ka pa ra qa:Option Addr)(kc pc rc qc:Nat)(w:World)(hin:GIn w.heap.size w G ka pa ra qa)(hsm:smG G)(htab:Tb w.heap.size w) :
 Calls Tryz.prog 22 #[gV G ka pa ra qa kc pc rc qc] w λe w'=>zcU G w e w':=by
 have HN:Hid (∀ W1:World,W1=(w.alloc (.cells #[.slice ka G.kinds.length kc,.slice pa G.precs.length pc,.slice ra G.rules.length rc,.slice qa G.prods.length qc,.int .i64 G.start] 26)).alloc (.cells #[.slice none 0 0,.slice none 0 0] 45)->Calls Tryz.prog 32 #[gV G ka pa ra qa kc pc rc qc,.slice none 0 0] W1 λe w'=>zlY G [] W1 e w'/\Below w.heap.size w W1/\W1.heap.size=w.heap.size+2/\W1.heap[w.heap.size+1]? = some (.cells #[.slice none 0 0,.slice none 0 0] 45 (0,0))):=zaa (λW1 hW1=>by
  have hb1:Below w.heap.size w W1:=by rw[hW1];exact((zsY _ _).alloc (zsG _) _).alloc (by simp) _
  have hs1:W1.heap.size=w.heap.size+2:=by rw[hW1];simp
  have hx1:=zsH (w.alloc (.cells #[.slice ka G.kinds.length kc,.slice pa G.precs.length pc,.slice ra G.rules.length rc,.slice qa G.prods.length qc,.int .i64 G.start] 26)) (.cells #[.slice none 0 0,.slice none 0 0] 45);rw[<- hW1] at hx1;refine(zfK G ka pa ra qa kc pc rc qc none 0 [] (by simp) W1 (zcQ hin hb1) hsm (.inl rfl)).mono ?_
  exact λe w' h=>⟨h,hb1,hs1,by simpa using hx1⟩)
 have hsz0:=htab.1;have Htab:=zaa htab;unfold gV at HN ⊢;clear hin htab;go_enter Tryz.func22,Tryz.ntmps22;go_wp2_with fail;refine(uh HN _ rfl).mono ?_;rintro e w2 ⟨⟨hb2,h⟩,hb1,hs1,hx1⟩;have hbw2:Below w.heap.size w w2:=hb1.trans (zab hb2 hb1.size);have hx2:=(hb2.block (w.heap.size+1) (by omega)).trans hx1;have hs2:=hb2.size;rw[hs1] at hs2;have o0:=zac hx2 0 rfl;have o1:=zac hx2 1 rfl;rcases h with ⟨h1,rfl⟩ | ⟨h1,h2,-⟩ | ⟨h1,-,gb,rfl,h4,h5⟩
 ·have z0:=Wk.frozen_block hx2 0;have z1:=Wk.frozen_block hx2 1;obtain⟨WF,hWF,f0,f1,hbF,hfF⟩:=zc6 (P:=.slice none 0 0) (E:=.slice none 0 0) hx2 hbw2 (by omega);have Hf:Hid (zcU G w (.returned (.tuple #[.agg #[.slice none 0 0,.slice none 0 0],.int .i64 130])) WF):=zaa ⟨hbF,by rw[if_neg (by simp[h1])]⟩;clear hb1 hb2 hbw2 hx1 hx2 h1 HN hbF hfF;go_wp2;rw[<- hWF];refine bodyPost_ret (v:=.tuple #[.agg #[.slice none 0 0,.slice none 0 0],.int .i64 130]) ?zz1 rfl (uh Hf)
  case zz1=>simp[results,Tryz.results22,go_sem,f0,f1]
 ·cases h2
 ·have hG:=zb8 h1;have HC:=zaa (zdo hLY w2.heap.size gb G h1 w2 (zsG _) h5);have Hbw2:=zaa hbw2;have Hx2:=zaa hx2;have Hh1:=zaa h1;clear hb1 hb2 hbw2 hx1 hx2 h1 HN h4 h5 o0 o1;go_wp2_with fail;refine(uh HC).mono ?_;rintro e w3 ⟨cb,tb,rfl,ht1,ht2,hcl,hrs,hb3⟩;have hs3:=hb3.size;have HNb:=zaa (zhC _ w2.heap.size cb gb tb w2.heap.size G w3 hcl hrs (λk hk=>hk.1) ht1 ht2);have hx3:=(hb3.block (w.heap.size+1) (by omega)).trans (uh Hx2);have hb23:=(uh Hbw2).trans (zab hb3 (by omega));have Hx3:=zaa hx3;have Hb23:=zaa hb23;clear HC hcl hrs hb3 hx3 hb23;go_wp2_with fail;refine(uh HNb).mono ?_;rintro e w4 ⟨bb,mb,rfl,hb4,hbd4⟩;have hs4:=hb4.size;have hx4:=(hb4.block (w.heap.size+1) (by omega)).trans (uh Hx3);have hb24:=(uh Hb23).trans (zab hb4 (by omega));have HBd:=zaa (zrc _ w2.heap.size w2.heap.size cb gb tb bb mb G hG _ _ _ _ w4 hbd4 (zdz (uh Htab) (zsG _) hb24) (by omega));have Hx4:=zaa hx4;have Hb24:=zaa hb24;clear HNb hb4 hbd4 hx4 hb24;go_wp2_with fail;refine(uh HBd).mono ?_;rintro e w5 ⟨hf5,hp⟩;have hx5:=(hf5.2.1 (w.heap.size+1) (by omega) (by omega)).trans (uh Hx4);have hb25:Below w.heap.size w w5:=(uh Hb24).trans (zau hf5 (by omega) (λk hk=>by omega));have o0:=zac hx5 0 rfl;have o1:=zac hx5 1 rfl;have z0:=Wk.frozen_block hx5 0;have z1:=Wk.frozen_block hx5 1;obtain⟨r,hr⟩:∃ r,r=zcp G:=⟨_,rfl⟩;rw[<- hr] at hp
  cases r with
  | error v =>
    obtain rfl:=hp;have hv0:(v != 0)=true:=by simpa using zok hr.symm
    obtain⟨WF,hWF,f0,f1,hbF,hfF⟩:=zc6 (P:=.slice none 0 0) (E:=.slice none 0 0) hx5 hb25 (by omega);have Hf:Hid (zcU G w (.returned (.tuple #[.agg #[.slice none 0 0,.slice none 0 0],.int .i64 v])) WF):=zaa ⟨hbF,by rw[if_pos (uh Hh1),<- hr]⟩;clear hf5 hx5 hb25 hr HBd Hx4 Hb24 hbF hfF;go_wp2;rw[<- hWF];refine bodyPost_ret (v:=.tuple #[.agg #[.slice none 0 0,.slice none 0 0],.int .i64 v]) ?zz2 rfl (uh Hf)
    case zz2=>simp[results,Tryz.results22,go_sem,f0,f1]
  | ok r =>
    obtain⟨s,nxs⟩:=r;obtain⟨rfl,R',vS,vN,svs,nvs,hbd5⟩:=hp;obtain⟨sa,sc,rfl⟩:=zaf hbd5.rowS;obtain⟨na,nc,rfl⟩:=zaf hbd5.rowN;have e1:=zac hbd5.box 1 rfl;have e2:=zac hbd5.box 2 rfl;have hbl5:=(zbW hbd5).1;have hlo5:=hbd5.lo;obtain⟨WF,hWF,f0,f1,hbF,hfF⟩:=zc6 (P:=.slice sa s.sts.length sc) (E:=.slice na nxs.length nc) hx5 hb25 (by omega);have hfR:Fr (λk=>¬ (R' k/\k≠w.heap.size+1)) w5 WF:=zaj hfF (λk _ e hR=>hR.2 e)
    have Hf:Hid (zcU G w (.returned (.tuple #[.agg #[.slice sa s.sts.length sc,.slice na nxs.length nc],.int .i64 0])) WF):=zaa ⟨hbF,by
     rw[if_pos (uh Hh1),<- hr]
     exact⟨λk=>R' k/\k≠w.heap.size+1,_,_,svs,nvs,rfl,λk hk=>zsJ (hbd5.rl k hk.1) hfF.1,zaR (zaC hbd5.rowS hfF (λk hk e=>by have:=(zaH hbd5.rowS hk).1;omega)) (by omega),zeb (zvg hx5 hbd5.stS) hfR,zaR (zaC hbd5.rowN hfF (λk hk e=>by have:=(zaH hbd5.rowN hk).1;omega)) (by omega),zef (zvK hx5 hbd5.stN) hfR⟩⟩
    clear hf5 hx5 hb25 hr HBd Hx4 Hb24 hbF hfF hfR hbd5;go_wp2;rw[<- hWF];refine bodyPost_ret (v:=.tuple #[.agg #[.slice sa s.sts.length sc,.slice na nxs.length nc],.int .i64 0]) ?zz3 rfl (uh Hf)
    case zz3=>simp[results,Tryz.results22,go_sem,f0,f1]
theorem zqi{l:List It}(h:zhG R w a l)(hR:∀ k,R k->k<B):zcy B w a l:=by
 rcases h with h | ⟨b,off,h1,h2,h3⟩
 ·exact .inl h
 ·exact .inr ⟨b,off,h1,hR b h2,h3⟩
theorem zpI{l:List Int}(h:zkL R w a l)(hR:∀ k,R k->k<B):NRow B w a l:=by
 rcases h with h | ⟨b,off,h1,h2,h3⟩
 ·exact .inl h
 ·exact .inr ⟨b,off,h1,hR b h2,h3⟩
theorem zv0{svs:List Value}(h:w.ownsRow B 27 1 v sts.length svs)(hs:zhs R w svs sts)(hR:∀ k,R k->k<w.heap.size)(hl:∀ j,j<sts.length->(sts.getD j []).length<=281474976710656):∃ a c,v=.slice a sts.length c/\zev w.heap.size w a sts:=by
 rcases h.2 with ⟨rfl,h0⟩ | ⟨g,cap,cur,rfl,_⟩
 ·have:sts=[]:=List.length_eq_zero_iff.1 h0;exact⟨none,0,by rw[this];rfl,.inl this⟩
 ·refine⟨some ⟨g,0,none⟩,cap,rfl,.inr ⟨g,0,rfl,(h.lt g rfl).2,λj hj=>?_⟩⟩;obtain⟨a,c,h1,h2⟩:=hs.2 j hj;refine⟨a,c,?_,zqi h2 hR,hl j hj⟩;have:=h.cells (g:=g) rfl j _ h1
  rwa [Go.WideShapes.add_plain] at this
theorem zs3{nvs:List Value}(h:w.ownsRow B 50 1 v nxs.length nvs)(hs:zht R w nvs nxs)(hR:∀ k,R k->k<w.heap.size):∃ a c,v=.slice a nxs.length c/\zeu w a nxs:=by
 rcases h.2 with ⟨rfl,h0⟩ | ⟨g,cap,cur,rfl,_⟩
 ·have:nxs=[]:=List.length_eq_zero_iff.1 h0;exact⟨none,0,by rw[this];rfl,.inl this⟩
 ·refine⟨some ⟨g,0,none⟩,cap,rfl,.inr ⟨g,0,rfl,(h.lt g rfl).2,λj hj=>?_⟩⟩;obtain⟨a,c,h1,h2⟩:=hs.2 j hj;refine⟨a,c,?_,zpI h2 hR⟩;have:=h.cells (g:=g) rfl j _ h1
  rwa [Go.WideShapes.add_plain] at this
end Go.Proofs.YtieciibnajeibaaGreatDoor
namespace Go.Proofs.YtieciibnajeibaaGreatDoor
open Go.RowKit Go.Lib
theorem zcJ{F:Nat}{args:Array Value}{w:World}{p:Prop}[Decidable p](h:Calls Tryz.prog F args w λe w'=>(∃ r:Bool,e=.returned (.bool r)/\(r=true↔p))/\Below w.heap.size w w'):Calls Tryz.prog F args w λe w'=>e=.returned (.bool (decide p))/\Below w.heap.size w w' :=
 h.mono (by
  rintro e w' ⟨⟨r,rfl,hr⟩,hb⟩;refine⟨?_,hb⟩;have:r=decide p:=by rw[Bool.eq_iff_iff,decide_eq_true_eq];exact hr
  rw[this])
open Classical in
theorem zkl(B gb:Nat)(G:Gm)(hG:GOk G)(sa na:Option Addr)(sc nc:Nat)(sts:List (List It))(nxs:List (List Int))(hsl:sts.length<=281474976710656)(hl:∀ j,j<nxs.length->(nxs.getD j []).length<=281474976710656)(hl2:nxs.length<=281474976710656)(w:World)(hB:B<=w.heap.size)(hg:GmB B w gb G)(hs:zev w.heap.size w sa sts)(hn:zeu w na nxs)(hRm:zng sts)(hHv:zkM sts.length nxs)(hle:(nxs.getD 0 []).length=G.nk+G.nr)(hIt:∀ j,j<sts.length->zni G (sts.getD j [])) :
 Calls Tryz.prog 57 #[.pointer (some ⟨gb,0,none⟩),.agg #[.slice sa sts.length sc,.slice na nxs.length nc]] w λe w'=>e=.returned (.bool true)/\Below w.heap.size w w':=by
 obtain⟨w2,hw2⟩:∃ w2,w2=(w.alloc (.cells #[.pointer (some ⟨gb,0,none⟩)] 61)).alloc (.cells #[.slice sa sts.length sc,.slice na nxs.length nc] 45):=⟨_,rfl⟩;have hb2:Below w.heap.size w w2:=by rw[hw2];exact((zsY _ _).alloc (zsG _) _).alloc (by simp) _
 have hs2:w2.heap.size=w.heap.size+1+1:=by rw[hw2];simp
 have hxa:w2.heap[w.heap.size+1]? = some (.cells #[.slice sa sts.length sc,.slice na nxs.length nc] 45 (0,0)):=by
  have:=zsH (w.alloc (.cells #[.pointer (some ⟨gb,0,none⟩)] 61)) (.cells #[.slice sa sts.length sc,.slice na nxs.length nc] 45);rw[hw2];simpa using this
 have hxg:w2.heap[w.heap.size]? = some (.cells #[.pointer (some ⟨gb,0,none⟩)] 61 (0,0)):=by
  rw[hw2,zsZ _ _ _ (by simp)];exact zsH _ _
 have HS:Hid (∀ W:World,Below w2.heap.size w2 W->W.cell? ⟨w.heap.size,0,none⟩=some (.pointer (some ⟨gb,0,none⟩))/\W.cell? ⟨w.heap.size+1,0,none⟩=some (.slice sa sts.length sc)/\W.cell? ⟨w.heap.size+1,1,none⟩=some (.slice na nxs.length nc)):=zaa (λW hb=>⟨(hb.cell (p:=⟨w.heap.size,0,none⟩) (by show w.heap.size<_;omega)).trans (zac hxg 0 rfl),(hb.cell (p:=⟨w.heap.size+1,0,none⟩) (by show w.heap.size+1<_;omega)).trans (zac hxa 0 rfl),(hb.cell (p:=⟨w.heap.size+1,1,none⟩) (by show w.heap.size+1<_;omega)).trans (zac hxa 1 rfl)⟩);have hsu:=λ(W:World) (hb:Below w2.heap.size w2 W)=>hb2.trans (zab hb (by omega));have HA:=zaa (λ(W:World) (hb:Below w2.heap.size w2 W)=>zcJ (zf2 sa sc sts hsl W (zbx (zaU (hsu W hb) hs) (hsu W hb).size)));have HB:=zaa (λ(W:World) (hb:Below w2.heap.size w2 W)=>zcJ (zey sa na sts.length sc nc nxs hsl hl hl2 W (zbE hn (hsu W hb))));have HC:=zaa (λ(W:World) (hb:Below w2.heap.size w2 W)=>zeG B gb G hG W (zaX (zab (hsu W hb) hB) hg));have HD:=zaa (λ(W:World) (hb:Below w2.heap.size w2 W)=>zcJ (zmZ B w.heap.size gb G hG sa sc sts hsl W (by have:=(hsu W hb).size;omega) (zaX (zab (hsu W hb) hB) hg) ((hb.block _ (by omega)).trans hxg) (zbx (zaU (hsu W hb) hs) (hsu W hb).size)));have hk3:=hG.k3;have hr2:=hG.r2;have Hn:=zaa (zbE hn hb2);have Hb2:=zaa hb2;clear hg hs hn hxa hxg hb2 hsu;have Hw2:=zaa hw2;clear hw2;have hd:decide (zng sts)=true:=decide_eq_true hRm;rw[hd] at HA;have hd2:decide (zkM sts.length nxs)=true:=decide_eq_true hHv;rw[hd2] at HB;have hnl:0<nxs.length:=by have:=hHv.1;have:=hHv.2.1;omega
 have hnlI:(0:Int)<(nxs.length:Int):=by omega
 obtain⟨nb,noff,rfl,hnb,r0,c0,q0,-⟩:=zfb (uh Hn) hnl;have q0':w2.cell? ⟨nb,noff,none⟩=some (.slice r0 (nxs.getD 0 []).length c0):=q0
 have HS0:Hid (∀ W:World,Below w2.heap.size w2 W->W.cell? ⟨w.heap.size,0,none⟩=some (.pointer (some ⟨gb,0,none⟩))/\W.cell? ⟨w.heap.size+1,0,none⟩=some (.slice sa sts.length sc)/\W.cell? ⟨w.heap.size+1,1,none⟩=some (.slice (some ⟨nb,noff,none⟩) nxs.length nc)/\W.cell? ⟨nb,noff,none⟩=some (.slice r0 (nxs.getD 0 []).length c0)):=zaa (λW hb=>by
  obtain⟨a1,a2,a3⟩:=uh HS W hb
  exact⟨a1,a2,a3,(hb.cell (p:=⟨nb,noff,none⟩) hnb).trans q0'⟩)
 have hl0:=hl 0 hnl;have hleI:(((nxs.getD 0 []).length:Int) == (G.nk:Int)+(G.nr:Int))=true:=by rw[hle];simp
 have hd3:decide (∃ j,j<sts.length/\¬ zni G (sts.getD j []))=false:=decide_eq_false (fun⟨j,h1,h2⟩=>h2 (hIt j h1));rw[hd3] at HD;clear q0 q0' HS hl hRm hHv hIt hd hd2 hd3 hle Hn;generalize (nxs.getD 0 []).length=m at *;go_enter Tryz.func57,Tryz.ntmps57;go_wp2_with fail;rw[<- uh Hw2];have hS:Below w2.heap.size w2 w2.drew:=(zsY _ _).drew
 go_region_held3 (λW:World=>W.cell? ⟨w.heap.size,0,none⟩=some (.pointer (some ⟨gb,0,none⟩))/\W.cell? ⟨w.heap.size+1,0,none⟩=some (.slice sa sts.length sc)/\W.cell? ⟨w.heap.size+1,1,none⟩=some (.slice (some ⟨nb,noff,none⟩) nxs.length nc)/\W.cell? ⟨nb,noff,none⟩=some (.slice r0 m c0))
  (exact uh HS0 _ hS)
  (first
   | (go_at_call 93;refine(uh HA _ hS).mono ?_;rintro e W3 ⟨rfl,hb3⟩;have hS:=hS.trans (zab hb3 hS.size);clear hb3)
   | (go_at_call 54;refine(uh HB _ hS).mono ?_;rintro e W3 ⟨rfl,hb3⟩;have hS:=hS.trans (zab hb3 hS.size);clear hb3)
   | (go_at_call 40;refine(uh HC _ hS).mono ?_;rintro e W3 ⟨rfl,hb3⟩;have hS:=hS.trans (zab hb3 hS.size);clear hb3)
   | (go_at_call 94;refine(uh HD _ hS).mono ?_;rintro e W3 ⟨rfl,hb3⟩;have hS:=hS.trans (zab hb3 hS.size);clear hb3)
   | fail)
 all_goals
  go_wp2;refine bodyPost_ret (v:=.bool true) ?zq rfl ⟨rfl,(uh Hb2).trans (zab hS (uh Hb2).size)⟩
  case zq=>simp[results,Tryz.results57,go_sem]
open Classical in
theorem zlC(B gb:Nat)(G:Gm)(hG:GOk G)(sa na:Option Addr)(sc nc:Nat)(sts:List (List It))(nxs:List (List Int))(hsl:sts.length<=281474976710656)(hl:∀ j,j<nxs.length->(nxs.getD j []).length<=281474976710656)(hl2:nxs.length<=281474976710656)(w:World)(hB:B<=w.heap.size)(hg:GmB B w gb G)(hs:zev w.heap.size w sa sts)(hn:zeu w na nxs)(hRm:¬ zng sts) :
 Calls Tryz.prog 57 #[.pointer (some ⟨gb,0,none⟩),.agg #[.slice sa sts.length sc,.slice na nxs.length nc]] w λe w'=>e=.returned (.bool false)/\Below w.heap.size w w':=by
 obtain⟨w2,hw2⟩:∃ w2,w2=(w.alloc (.cells #[.pointer (some ⟨gb,0,none⟩)] 61)).alloc (.cells #[.slice sa sts.length sc,.slice na nxs.length nc] 45):=⟨_,rfl⟩;have hb2:Below w.heap.size w w2:=by rw[hw2];exact((zsY _ _).alloc (zsG _) _).alloc (by simp) _
 have hs2:w2.heap.size=w.heap.size+1+1:=by rw[hw2];simp
 have hxa:w2.heap[w.heap.size+1]? = some (.cells #[.slice sa sts.length sc,.slice na nxs.length nc] 45 (0,0)):=by
  have:=zsH (w.alloc (.cells #[.pointer (some ⟨gb,0,none⟩)] 61)) (.cells #[.slice sa sts.length sc,.slice na nxs.length nc] 45);rw[hw2];simpa using this
 have hxg:w2.heap[w.heap.size]? = some (.cells #[.pointer (some ⟨gb,0,none⟩)] 61 (0,0)):=by
  rw[hw2,zsZ _ _ _ (by simp)];exact zsH _ _
 have HS:Hid (∀ W:World,Below w2.heap.size w2 W->W.cell? ⟨w.heap.size,0,none⟩=some (.pointer (some ⟨gb,0,none⟩))/\W.cell? ⟨w.heap.size+1,0,none⟩=some (.slice sa sts.length sc)/\W.cell? ⟨w.heap.size+1,1,none⟩=some (.slice na nxs.length nc)):=zaa (λW hb=>⟨(hb.cell (p:=⟨w.heap.size,0,none⟩) (by show w.heap.size<_;omega)).trans (zac hxg 0 rfl),(hb.cell (p:=⟨w.heap.size+1,0,none⟩) (by show w.heap.size+1<_;omega)).trans (zac hxa 0 rfl),(hb.cell (p:=⟨w.heap.size+1,1,none⟩) (by show w.heap.size+1<_;omega)).trans (zac hxa 1 rfl)⟩);have hsu:=λ(W:World) (hb:Below w2.heap.size w2 W)=>hb2.trans (zab hb (by omega));have HA:=zaa (λ(W:World) (hb:Below w2.heap.size w2 W)=>zcJ (zf2 sa sc sts hsl W (zbx (zaU (hsu W hb) hs) (hsu W hb).size)));have HB:=zaa (λ(W:World) (hb:Below w2.heap.size w2 W)=>zcJ (zey sa na sts.length sc nc nxs hsl hl hl2 W (zbE hn (hsu W hb))));have HC:=zaa (λ(W:World) (hb:Below w2.heap.size w2 W)=>zeG B gb G hG W (zaX (zab (hsu W hb) hB) hg));have HD:=zaa (λ(W:World) (hb:Below w2.heap.size w2 W)=>zcJ (zmZ B w.heap.size gb G hG sa sc sts hsl W (by have:=(hsu W hb).size;omega) (zaX (zab (hsu W hb) hB) hg) ((hb.block _ (by omega)).trans hxg) (zbx (zaU (hsu W hb) hs) (hsu W hb).size)));have hk3:=hG.k3;have hr2:=hG.r2;have Hn:=zaa (zbE hn hb2);have Hb2:=zaa hb2;clear hg hs hn hxa hxg hb2 hsu;have Hw2:=zaa hw2;clear hw2;have hd:decide (zng sts)=false:=decide_eq_false hRm;rw[hd] at HA;clear HB HC HD hRm hd Hn;go_enter Tryz.func57,Tryz.ntmps57;go_wp2_with fail;rw[<- uh Hw2];have hS:Below w2.heap.size w2 w2.drew:=(zsY _ _).drew;refine wp_region_held_drew (S:=(λW:World=>W.cell? ⟨w.heap.size,0,none⟩=some (.pointer (some ⟨gb,0,none⟩))/\W.cell? ⟨w.heap.size+1,0,none⟩=some (.slice sa sts.length sc)/\W.cell? ⟨w.heap.size+1,1,none⟩=some (.slice na nxs.length nc))) (by kernel_rfl) (uh HS _ hS) (λhH=>?_);refine zad 0 5 rfl rfl hH (λw ⟨k0,k1,k2⟩=>by go_simp;try rfl) ?_;simp only[Act.put,zsA,zsB,zsC];refine zad 1 6 rfl rfl hH (λw ⟨k0,k1,k2⟩=>by go_simp;try rfl) ?_;simp only[Act.put,zsA,zsB,zsC];refine zai 2 rfl λK hK=>?_;go_simp;refine(uh HA _ hS).mono ?_;rintro e W3 ⟨rfl,hb3⟩;have hS:=hS.trans (zab hb3 hS.size);clear hb3;go_wp2_with fail;refine hK.out _ _ (uh HS _ hS) (λhH=>?_);clear hK K;refine zad 3 8 rfl rfl hH (λw ⟨k0,k1,k2⟩=>by go_simp;try rfl) ?_;simp only[Act.put,zsA,zsB,zsC];refine zbH 4 9 rfl rfl hH ?_;simp only[Act.put,zsA,zsB,zsC];refine zbH 5 10 rfl rfl hH ?_;simp only[Act.put,zsA,zsB,zsC];refine zad 6 11 rfl rfl hH (λw ⟨k0,k1,k2⟩=>by go_simp;try rfl) ?_;simp only[Act.put,zsA,zsB,zsC];refine zad 7 12 rfl rfl hH (λw ⟨k0,k1,k2⟩=>by go_simp;try rfl) ?_;simp only[Act.put,zsA,zsB,zsC];refine zbH 8 13 rfl rfl hH ?_;simp only[Act.put,zsA,zsB,zsC];refine zbH 9 14 rfl rfl hH ?_;simp only[Act.put,zsA,zsB,zsC];refine zbH 10 15 rfl rfl hH ?_;simp only[Act.put,zsA,zsB,zsC];refine zbH 11 16 rfl rfl hH ?_;simp only[Act.put,zsA,zsB,zsC];refine zbH 12 17 rfl rfl hH ?_;simp only[Act.put,zsA,zsB,zsC];refine zbH 13 18 rfl rfl hH ?_;simp only[Act.put,zsA,zsB,zsC];refine zbH 14 19 rfl rfl hH ?_;simp only[Act.put,zsA,zsB,zsC];refine zbH 15 20 rfl rfl hH ?_;simp only[Act.put,zsA,zsB,zsC];refine zad 16 21 rfl rfl hH (λw ⟨k0,k1,k2⟩=>by go_simp;try rfl) ?_;simp only[Act.put,zsA,zsB,zsC];refine zad 17 22 rfl rfl hH (λw ⟨k0,k1,k2⟩=>by go_simp;try rfl) ?_;simp only[Act.put,zsA,zsB,zsC];refine zbH 18 23 rfl rfl hH ?_;simp only[Act.put,zsA,zsB,zsC];refine zbH 19 24 rfl rfl hH ?_;simp only[Act.put,zsA,zsB,zsC];refine zbH 20 25 rfl rfl hH ?_;simp only[Act.put,zsA,zsB,zsC];refine zbH 21 26 rfl rfl hH ?_;simp only[Act.put,zsA,zsB,zsC];refine zbH 22 27 rfl rfl hH ?_;simp only[Act.put,zsA,zsB,zsC];refine zad 23 28 rfl rfl hH (λw ⟨k0,k1,k2⟩=>by go_simp;try rfl) ?_;simp only[Act.put,zsA,zsB,zsC];refine zad 24 4 rfl rfl hH (λw ⟨k0,k1,k2⟩=>by go_simp;try rfl) ?_;simp only[Act.put,zsA,zsB,zsC];refine wpAnyH_done (by kernel_rfl) ?_ _;go_wp2;refine bodyPost_ret (v:=.bool false) ?zq0 rfl ⟨rfl,(uh Hb2).trans (zab hS (uh Hb2).size)⟩
 case zq0=>simp[results,Tryz.results57,go_sem]
end Go.Proofs.YtieciibnajeibaaGreatDoor
namespace Go.Proofs.YtieciibnajeibaaGreatDoor
open Go.RowKit
variable{G:Gm}{l:List It}
theorem zlN(h:zcL G l=0):zbK G=true/\zdv G l=true/\zbD G l=clL G l/\(clL G l).length<=65536:=by
 unfold zcL at h
 split at h
 ·rename_i h1
  split at h
  ·rename_i h2;unfold clV at h
   split at h
   ·rename_i h3;refine⟨h1,h2,?_,h3⟩;unfold zbD clR;rw[if_pos h1,if_pos h2,if_pos h3]
   ·cases h
  ·cases h
 ·cases h
theorem zwL(h:zcL G l≠0):zbD G l=[]:=by
 unfold zcL at h;unfold zbD
 split at h
 ·rename_i h1;rw[if_pos h1]
  split at h
  ·rename_i h2;rw[if_pos h2];unfold clV at h;unfold clR
   split at h
   ·exact absurd rfl h
   ·rename_i h3;rw[if_neg h3]
  ·rename_i h2;rw[if_neg h2]
 ·rename_i h1;rw[if_neg h1]
theorem zq3(h1:zbK G=true)(h2:zdv G l=true)(h3:(clL G l).length<=65536):zcL G l=0/\zbD G l=clL G l:=by
 unfold zcL zbD clV clR;rw[if_pos h1,if_pos h2,if_pos h3,if_pos h1,if_pos h2,if_pos h3];exact⟨rfl,rfl⟩
theorem zq1{m:List It}(h:zcL G l=0)(hm:∀ x,x ∈ m↔x ∈ l):zcL G m=0/\zbD G m=zbD G l:=by
 obtain⟨h1,h2,h3,h4⟩:=zlN h;have hG:=zb8 h1;have e:clL G m=clL G l:=zkB hG hm;have:=zq3 h1 (areIt_iff.2 λx hx=>areIt_iff.1 h2 x ((hm x).1 hx)) (by rw[e];exact h4);rw[h3,<- e];exact this
theorem zoj(h:zcL G l=0):zcL G (zbD G l)=0/\zbD G (zbD G l)=zbD G l:=by
 obtain⟨h1,h2,h3,h4⟩:=zlN h;have hG:=zb8 h1;have e:=zm3 hG l;rw[h3];have:=zq3 h1 (areIt_iff.2 (zqg hG (areIt_iff.1 h2))) (by rw[e];exact h4);rw[e] at this;exact this
theorem ztZ:(zbD G l).length<=65536:=by
 unfold zbD
 split
 ·split
  ·unfold clR
   split
   ·assumption
   ·simp
  ·simp
 ·simp
theorem zt0(h:zcL G l=0){x:It}(hx:x ∈ l):x ∈ zbD G l:=by
 obtain⟨h1,h2,h3,h4⟩:=zlN h;rw[h3];exact zkz (zb8 h1) hx
theorem zwK:UpI (zbD G l):=by
 unfold zbD
 split
 ·split
  ·unfold clR
   split
   ·exact zeD _ _
   ·exact List.Pairwise.nil
  ·exact List.Pairwise.nil
 ·exact List.Pairwise.nil
def zr2(M:List It)(i k:Nat):List It:=(M.set i (M.getD k it0)).set k (M.getD i it0)
theorem zgk(M:List It)(i k:Nat):(zr2 M i k).length=M.length:=by unfold zr2;simp
theorem zr1{M:List It}{i k:Nat}(hi:i<M.length)(hk:k<M.length)(x:It):x ∈ zr2 M i k↔x ∈ M:=by
 have e:∀ j,j<M.length->(zr2 M i k)[j]? = some (if j=k then M.getD i it0 else if j=i then M.getD k it0 else M.getD j it0):=λj hj=>by
  unfold zr2;by_cases h1:j=k
  ·subst h1;rw[List.getElem?_set_self (by simpa using hj),if_pos rfl]
  ·rw[List.getElem?_set_ne (λh=>h1 h.symm),if_neg h1];by_cases h2:j=i
   ·subst h2;rw[List.getElem?_set_self hj,if_pos rfl]
   ·rw[List.getElem?_set_ne (λh=>h2 h.symm),if_neg h2,zsE,zsF hj];rfl
 have hm:∀ j,j<M.length->M.getD j it0 ∈ M:=λj hj=>zbR hj;constructor
 ·intro hx;obtain⟨j,hj,rfl⟩:=zsT.1 hx;rw[zgk] at hj;have h:=e j hj;rw[zsF (by rw[zgk];exact hj)] at h;rw[Option.some.inj h]
  split
  ·exact hm i hi
  ·split
   ·exact hm k hk
   ·exact hm j hj
 ·intro hx;obtain⟨j,hj,rfl⟩:=zsT.1 hx;have hg:M.getD j it0=M[j]:=by rw[zsE,zsF hj];rfl
  rw[<- hg];by_cases h1:j=i
  ·subst h1;refine List.mem_of_getElem? (i:=k) ?_;rw[e k hk,if_pos rfl]
  ·by_cases h2:j=k
   ·subst h2;refine List.mem_of_getElem? (i:=i) ?_;rw[e i hi,if_neg (λh=>h1 h.symm),if_pos rfl]
   ·refine List.mem_of_getElem? (i:=j) ?_;rw[e j hj,if_neg h2,if_neg h1]
end Go.Proofs.YtieciibnajeibaaGreatDoor
