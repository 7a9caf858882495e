import Derived.Test.YtieciibnajeibaaGreatDoorKI
import Derived.Test.YtieciibnajeibaaGreatDoorSK
import Derived.Shelf.SlIterI.Sorted
set_option maxHeartbeats 8000000
set_option maxRecDepth 100000
namespace Go.Proofs.YtieciibnajeibaaGreatDoor
open Go.RowKit Go.Maps Go.Sort Go.Shelf
theorem sortsA(m:Nat):AnyZI.SortsIn Tryz.prog Tryz.sortedA_ren Fence.wide m :=
 ⟨λblk off cap ss W hH hblk hsz=>callsIn_wide.2 (Tryz.slices_Sort_int blk off cap ss W hH hblk hsz),λp cap W=>callsIn_wide.2 (Tryz.slices_Sort_int_none p cap W)⟩
theorem zln(mo:Option Nat)(W:World):Calls Tryz.prog 136 #[.map mo] W λe w'=>e=.returned (.func (.func 185) #[] #[.pointer (some ⟨W.heap.size,0,none⟩)])/\w'=W.alloc (.cells #[.map mo] 78) :=
 (callsIn_wide (n:=6)).1 (AnyZI.keys_in Tryz.keysA Fence.wide 6 trivial rfl mo W)
noncomputable def bigN:Nat:=Classical.choose (⟨1048577,rfl⟩:∃ n:Nat,n=1048577)
theorem zhm:bigN=1048577:=Classical.choose_spec (⟨1048577,rfl⟩:∃ n:Nat,n=1048577)
noncomputable def zgH(A:Nat->Sl):List Int:=((List.range bigN).filter λq=>decide (A q≠none)).map λ(q:Nat)=>(q:Int)
variable{A:Nat->Sl}
theorem zoW{x:Int}:x ∈ zgH A↔∃ q:Nat,q<=1048576/\x=q/\A q≠none:=by
 unfold zgH;rw[List.mem_map];constructor
 ·rintro⟨q,hq,rfl⟩;rw[List.mem_filter,List.mem_range,decide_eq_true_eq,zhm] at hq;exact⟨q,by omega,rfl,hq.2⟩
 ·rintro⟨q,hq,rfl,h⟩;exact⟨q,by rw[List.mem_filter,List.mem_range,decide_eq_true_eq,zhm];exact⟨by omega,h⟩,rfl⟩
theorem zl4(A:Nat->Sl):(zgH A).Pairwise (· < ·):=by
 unfold zgH;refine List.pairwise_map.2 (List.Pairwise.imp (λh=>?_) ((List.pairwise_lt_range (n:=bigN)).filter _));omega
theorem zhO{w:World}{b n:Nat}{D:DataW Unit}(h:w.ownsMap Tryz.prog 3 sliE b n D)(hk:∀ kl,Maps.has D kl=true↔∃ q:Nat,q<=1048576/\kl=ki q/\A q≠none){ss:List Int}(hs:ss.Perm (intKeys D)):ss.mergeSort (λx y=>decide (x<=y))=zgH A:=by
 have hp:(zgH A).Perm (intKeys D):=by
  obtain⟨es,hD,hpw,_⟩:=h.entries zke;obtain⟨es',hD',hko⟩:=h.keysOf;obtain rfl:es=es':=by rw[hD] at hD';simpa using hD'
  subst hD;refine perm_intKeys hpw (λp hp=>by obtain⟨v,hv⟩:=hko p hp;obtain⟨x,_,hx,_⟩:=Maps.keyOf_i64 Tryz.underlying3 hv;exact⟨x,hx⟩) ((zl4 A).imp (λh=>by omega)) (λx=>?_)
  ·rw[zoW,hk];constructor
   ·rintro⟨q,h1,h2,h3⟩;exact⟨q,h1,by rw[h2],h3⟩
   ·rintro⟨q,h1,h2,h3⟩;exact⟨q,h1,by simpa using h2,h3⟩
 have e:=mergeSort_of_perm_i (hs.trans hp.symm);refine e.trans (List.mergeSort_of_pairwise ((zl4 A).imp (λh=>?_)));exact decide_eq_true (by omega)
theorem zhy(b n:Nat)(A:Nat->Sl)(w:World)(h:MpI w b n A)(hn:n<=1099511627776) :
 Calls Tryz.prog 135 #[.func (.func 185) #[] #[.pointer (some ⟨w.heap.size,0,none⟩)]] (w.alloc (.cells #[.map (some b)] 78)) λe w'=>∃ v,e=.returned v/\w'.ownsRow w.heap.size 3 1 v (zgH A).length (zao (zgH A))/\Below w.heap.size w w':=by
 obtain⟨D0,hown,-,hk⟩:=h;have hbl:=hown.lt;have hsz:=hown.size_le
 have hseq:SeqGives Fence.wide 2 Tryz.prog 185 #[.pointer (some ⟨w.heap.size,0,none⟩)] encZ (λss=>ss.Perm (intKeys D0)) (Maps.size D0) (w.alloc (.cells #[.map (some b)] 78)) :=
  AnyZI.keys_gives (ρ:=Tryz.keysA_ren) { Tryz.keysA with } Fence.wide _ trivial rfl (by omega) w.heap.size b n D0 _ (by simp) (by simp) (by
   obtain⟨es,clock,hb,Ft,hs,hD⟩:=hown
   exact⟨es,clock,(zsZ _ _ b hbl).trans hb,Ft,hs,hD⟩)
 have cS:=AnyZI.sorted_in Tryz.sortedA Fence.wide 5 trivial trivial trivial trivial rfl (by omega) (sortsA _) (enters_of Tryz.func184 (by kernel_rfl) rfl) 185 #[.pointer (some ⟨w.heap.size,0,none⟩)] trivial (enters_of Tryz.func185 (by kernel_rfl) rfl) _ _ (by unfold maxLen;omega) (by omega) _ hseq;change CallsIn _ _ Tryz.prog 135 _ _ _ at cS;refine((callsIn_wide (n:=5)).1 cS).mono ?_;rintro e w' ⟨v,ss,rfl,hS,hrow,hnil,hb⟩;have hlen:ss.length=(zgH A).length:=by rw[<- zhO hown hk hS,List.length_mergeSort]
 rw[zhO hown hk hS,hlen] at hrow;exact⟨v,rfl,ownsRow_base_a hrow (by simp),((zsY _ w).alloc (zsG _) _).trans (hb.mono (by simp))⟩
end Go.Proofs.YtieciibnajeibaaGreatDoor
