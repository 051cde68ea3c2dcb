import Derived.Shelf.Strconv.ErrVarParseInt
import Derived.Shelf.Strconv.Itoa4
import Derived.Shelf.Strings.OnBuilder
import Derived.Lib.ParseIntBTie
import Derived.Lib.Join
import Derived.Test.YtebcjaenhiiflaaGreatDoorQCd
import Derived.Test.YtebcjaenhiiflaaGreatDoorQXg
set_option maxHeartbeats 4000000
set_option maxRecDepth 100000
namespace Go.Proofs.YtebcjaenhiiflaaGreatDoor.G
open Go.RowKit Go.Proofs.Tryz
variable {P:Program}
theorem zml (w:World) (t e ty:TypeId) (z:Value) (ht:P.underlying t=some (.slice e)) (hv:∀w,(zeroValue e).run P w= .ok z w) (g o n c:Nat) (hn:0<n) (cur:List Value) (te:TypeId)
 (hg:w.heap[g]? =some (.cells cur.toArray te (0,0))) (hfit:o+(Builtin.zeroCells z.cells n).toList.length<=cur.length) (h1:∀v∈(Builtin.zeroCells z.cells n).toList,v.oneCell'=true):
 (Builtin.clear_ #[t] ty #[.slice (some ⟨g,o,none⟩) n c]).run P w= .ok (.tuple #[]) (w.setRow g (splice cur o (Builtin.zeroCells z.cells n).toList).toArray):=by
 have hst:=run_storeCells_at P g o te _ 0 cur.toArray w hg (by simpa using hfit) h1;simp only [Nat.add_zero] at hst;obtain ⟨m,rfl⟩:∃m,n=m+1:=⟨n-1,by omega⟩;simp [Builtin.clear_,run_underlying ht,hv,hst,splice]
def closed (cur:List Value) (L:List E) (i:Nat):List Value:=cur.take (i*3)++zaf (L.drop (i+1))++cur.drop (i*3+(zaf (L.drop (i+1))).length)
theorem zib {cur:List Value} {L:List E} {i:Nat} (hi:i<L.length) (hroom:L.length*3<=cur.length):(closed cur L i).length=cur.length:=by
 unfold closed;simp [zah];omega
theorem zr8 {cur:List Value} {L:List E} {i:Nat} (hi:i<L.length) (h:cur.take (L.length*3)=zaf L) (hroom:L.length*3<=cur.length) (cs:List Value):(splice (closed cur L i) ((L.length-1)*3) cs).take ((L.length-1)*3)=zaf (L.take i++L.drop (i+1)):=by
 have hl:=zib hi hroom;unfold splice;rw [List.take_append_of_le_length (by simp;omega),List.take_of_length_le (by simp;omega)];unfold closed;have e1:cur.take (i*3)=zaf (L.take i):=by
  rw [<-zgu,<-h,List.take_take]
  congr 1
  omega
 have hlt:(zaf (L.take i)).length=i*3:=by rw [zah];simp;omega
 have hld:(zaf (L.drop (i+1))).length=(L.length-(i+1))*3:=by rw [zah];simp
 rw [e1,<-zc8,List.take_append_of_le_length (by rw [zah,zfw hi];omega),List.take_of_length_le (by rw [zah,zfw hi];omega)]
theorem zyz (n:Nat):∀u∈(Builtin.zeroCells zE.cells n).toList,u.oneCell'=true:=by
 intro u hu;rw [zgd] at hu;simp only [Builtin.zeroCells,Array.toList_map,List.mem_map] at hu;obtain ⟨a,_,rfl⟩:=hu;have:a%3<3:=Nat.mod_lt _ (by omega);show (#[Value.int .i64 0,Value.int .i64 0,Value.int .i64 0][a%3]!).oneCell'=true;generalize a%3=r at this
 match r,this with
 | 0,_=>rfl
 | 1,_=>rfl
 | 2,_=>rfl
theorem zsm (i k g cap:Nat) (w W1 W2:World) (hi:i<=k) (hk:k+1<=cap) (hcap:cap<=9223372036854775807) (hkl:k<=1000)
 (hap:∀ty A sc,(i<k->A=⟨g,(i+1)*3,none⟩)->(Builtin.append_ #[33,33] ty #[.slice (some ⟨g,0,none⟩) i cap,.slice (some A) (k-i) sc]).run prog w.drew= .ok (.slice (some ⟨g,0,none⟩) k cap) W1)
 (hcl:∀ty sc,(Builtin.clear_ #[33] ty #[.slice (some ⟨g,k*3,none⟩) 1 sc]).run prog W1= .ok (.tuple #[]) W2):
 Calls prog 115 #[.slice (some ⟨g,0,none⟩) (k+1) cap,.int .i64 (i:Int),.int .i64 ((i:Int)+1)] w λ e w'=>e= .returned (.slice (some ⟨g,0,none⟩) k cap)/\w'=W2:=by
 have hic:i<=cap:=by omega
 have hki:k+1-(i+1)=k-i:=by omega
 have hz1:¬((i:Int)=(i:Int)+1):=by omega
 have hb1:(i:Int)+1<=(k:Int)+1:=by omega
 have hb2:(i:Int)<=(i:Int)+1:=by omega
 have hb3:(0:Int)<=(i:Int)+1:=by omega
 have hb4:(i:Int)<=(cap:Int):=by omega
 have htn:((i:Int)+1).toNat=i+1:=by omega
 have hw1:IntKind.i64.wrap ((i:Int)+1)=(i:Int)+1:=by rw [IntKind.wrap_i64];omega
 have hck:¬(cap=k):=by omega
 have hkk:k+1-k=1:=by omega
 by_cases hcj:cap=i+1
 ·have hap1:∀ty sc,(Builtin.append_ #[33,33] ty #[.slice (some ⟨g,0,none⟩) i cap,.slice (some ⟨g,0,none⟩) (k-i) sc]).run prog w.drew= .ok (.slice (some ⟨g,0,none⟩) k cap) W1:=λ ty sc=>hap ty _ sc (λ h=>by omega)
  have HAP:=kd hap1;clear hap hap1;go_enter func115,ntmps115;go_wp2
  go_region_law (refine zau rfl (.tmp 22) (.tmp 25) 33 33 rfl (.slice (some ⟨g,0,none⟩) i cap) (.slice (some ⟨g,0,none⟩) (k-i) (cap-(i+1))) (by simp [Act.eval,Act.put,hcj]) (by simp [Act.eval,Act.put,hcj]) (HAP.out _ _) ?_)
  go_wp2;go_ret;exact ⟨by rw [hcj];rfl,rfl⟩
 ·have hap1:∀ty sc,(Builtin.append_ #[33,33] ty #[.slice (some ⟨g,0,none⟩) i cap,.slice (some ⟨g,(i+1)*3,none⟩) (k-i) sc]).run prog w.drew= .ok (.slice (some ⟨g,0,none⟩) k cap) W1:=λ ty sc=>hap ty _ sc (λ h=>rfl)
  have HAP:=kd hap1;clear hap hap1;go_enter func115,ntmps115;go_wp2
  go_region_law (refine zau rfl (.tmp 22) (.tmp 25) 33 33 rfl (.slice (some ⟨g,0,none⟩) i cap) (.slice (some ⟨g,(i+1)*3,none⟩) (k-i) (cap-(i+1))) (by simp [Act.eval,Act.put]) (by simp [Act.eval,Act.put]) (HAP.out _ _) ?_)
  go_wp2;go_ret;exact ⟨rfl,rfl⟩
theorem zu7 (B i:Nat) (v:Value) (L M:List E) (w:World) (h:zad w B 61 v L) (hi:i<L.length) (hl:L.length<=1000) (hM:M=L.take i++L.drop (i+1)):
 Calls prog 115 #[v,.int .i64 (i:Int),.int .i64 ((i:Int)+1)] w λ e w'=>∃v',e= .returned v'/\zad w' B 61 v' M/\w.grownBy w' v.ownBlock/\zbr w v v':=by
 subst hM;rcases h.2 with ⟨_,h0⟩ | ⟨g,cap,cur,rfl,hBg,hg,hnc,hm,hsz,htk⟩
 ·omega
 obtain ⟨k,hk⟩:∃k,L.length=k+1:=⟨L.length-1,by omega⟩;obtain ⟨inf,hinf,hs,hb,hz⟩:=zlf;have hcl:(closed cur.toList L i).length=cur.size:=by rw [zib hi (by simp;omega)];simp
 have hld:(zaf (L.drop (i+1))).length=(k-i)*3:=by rw [zah];simp;omega
 have hap:∀ty A sc,(i<k->A=⟨g,(i+1)*3,none⟩)->(Builtin.append_ #[33,33] ty #[.slice (some ⟨g,0,none⟩) i cap,.slice (some A) (k-i) sc]).run prog w.drew= .ok (.slice (some ⟨g,0,none⟩) k cap) (w.drew.setRow g (closed cur.toList L i).toArray):=by
  intro ty A sc hA;have hr:=run_append_room (P:=prog) w.drew 33 ty 61 inf underlying33 hinf g i cap cur hg A (k-i) sc (zaf (L.drop (i+1))) (by rw [hs];exact hld) (λ j u hu=>by
   rcases Nat.lt_or_ge i k with hlt | hge
   ·rw [hA hlt]
    exact zfs h rfl (i+1) j u hu
   ·have h0:(zaf (L.drop (i+1))).length=0:=by rw [hld];omega
    rw [List.length_eq_zero_iff.1 h0] at hu;simp at hu) (zcj _) (by omega) (by rw [hs,hld];omega)
  rw [hr,hs,show i+(k-i)=k by omega];rfl
 have hg1:(w.drew.setRow g (closed cur.toList L i).toArray).heap[g]? =some (.cells (closed cur.toList L i).toArray 61 (0,0)):=setRow_heap w.drew g cur _ 61 (0,0) hg;have hcr:∀ty sc,(Builtin.clear_ #[33] ty #[.slice (some ⟨g,k*3,none⟩) 1 sc]).run prog (w.drew.setRow g (closed cur.toList L i).toArray)= .ok (.tuple #[]) ((w.drew.setRow g (closed cur.toList L i).toArray).setRow g (splice (closed cur.toList L i) (k*3) (Builtin.zeroCells zE.cells 1).toList).toArray):=λ ty sc=>
  zml _ 33 61 ty zE underlying33 zeroValue61 g (k*3) 1 sc (by omega) _ 61 hg1 (by rw [zdg,hcl];omega) (zyz 1)
 have hwalk:=zsm i k g cap w _ _ (by omega) (by omega) (by simp only [maxLen] at hm;omega) (by omega) hap hcr;rw [hk];refine hwalk.mono ?_;rintro e w' ⟨rfl,rfl⟩;refine ⟨_,rfl,?_,?_,λ b hb=>Or.inl hb⟩
 ·have hlen:(L.take i++L.drop (i+1)).length=k:=by rw [zfw hi];omega
  rw [setRow_setRow];refine ⟨zah _,Or.inr ⟨g,cap,_,by rw [hlen],hBg,setRow_heap w.drew g cur _ 61 (0,0) hg,by rw [hlen];omega,hm,?_,?_⟩⟩
  ·rw [List.size_toArray,length_splice _ _ _ (by rw [zdg,hcl];omega),hcl];exact hsz
  ·show (splice _ _ _).take _=_
   have:=zr8 hi htk (by simp;omega) (Builtin.zeroCells zE.cells 1).toList;rw [hk,show k+1-1=k by omega] at this;rw [hlen];exact this
 ·rw [setRow_setRow]
  exact ⟨rfl,rfl,rfl,by simp,λ j _ hn=>setRow_other w.drew g j _ (λ e=>hn (by simp [Value.ownBlock,e]))⟩
theorem zz6 (id n:Int) (B p:Nat) (v:Value) (L:List E) (w:World) (h:GAt w B 168 61 p n v L) (hu:Up L) (hl:L.length<=120) (hs:seen L id=none):
 Calls prog 55 #[.pointer (some ⟨p,0,none⟩),.int .i64 id] w λ e w'=>e= .returned (.iface 23 (.int .i64 7))/\Below w.heap.size w w':=by
 have HC:Hid (Calls prog 114 #[.pointer (some ⟨p,0,none⟩),.int .i64 id] w λ e w'=>e= .returned (.tuple #[.int .i64 (place L id:Nat),.bool false])/\Below w.heap.size w w'):=zge id B p (place L id) n v L false w h hu (by omega) rfl (by rw [hs];rfl);clear h hu hs;go_enter func55,ntmps55;go_wp2_with fail;refine HC.out.mono ?_;rintro e w1 ⟨rfl,hb⟩;have HB:=kd hb;clear hb;go_wp2;go_ret;exact ⟨rfl,HB.out⟩
theorem z1h (id n:Int) (B p k:Nat) (v:Value) (L:List E) (x:E) (w:World) (h:GAt w B 168 61 p n v L) (hu:Up L) (hl:L.length<=120) (hk:k=place L id) (hx:L[k]? =some x) (hs:seen L id=some x):
 Calls prog 55 #[.pointer (some ⟨p,0,none⟩),.int .i64 id] w λ e w'=>e= .returned .nilIface/\zfx w w' B 168 p n v (L.take k++L.drop (k+1)):=by
 have HC:Hid (Calls prog 114 #[.pointer (some ⟨p,0,none⟩),.int .i64 id] w λ e w'=>e= .returned (.tuple #[.int .i64 (k:Int),.bool true])/\Below w.heap.size w w'):=zge id B p k n v L true w h hu (by omega) hk (by rw [hs];rfl);have hlt:k<L.length:=(List.getElem?_eq_some_iff.1 hx).1;have hk9:k<=120:=by omega
 have HL:Hid (k<L.length/\L.length<=1000):=⟨hlt,by omega⟩;have HG:=kd h;clear h hu hs hx hk hlt hl;go_enter func55,ntmps55;go_wp2_with fail;refine HC.out.mono ?_;rintro e w1 ⟨rfl,hb⟩;have HB:=kd hb;have HG1:Hid (GAt w1 B 168 61 p n v L):=HG.out.below hb;have hp:=HG1.out.c1;clear hb HC;go_wp2_with fail;refine (zu7 B k v L _ w1 HG1.out.row HL.out.1 HL.out.2 rfl).mono ?_;rintro e w2 ⟨v',rfl,h1,h2,h3⟩;have HS:Hid (zfx w (w2.setCell ⟨p,1,none⟩ v') B 168 p n v (L.take k++L.drop (k+1))):=zpw HG1.out HB.out h2 h1 h3 HG.out.plt;have q1:=(zhb HG1.out h2).1;have q2:=(zhb HG1.out h2).2;obtain ⟨a',m',c',hv'⟩:=h1.slice;subst hv';clear h1 h2 h3 hp;go_wp2;go_ret;exact ⟨rfl,HS.out⟩
end Go.Proofs.YtebcjaenhiiflaaGreatDoor.G
namespace Go.Proofs.YtebcjaenhiiflaaGreatDoor.I
open Go.RowKit Go.WideMaps Go.Maps Go.Lib Go.Proofs.Tryz
variable {w0 w w':World} {x p q n:Nat} {v:Value} {L R B:List G.E} {W T:List Nat} {D:DataW Unit} {pw bw pt bt mp N:Nat}
theorem Ok.sub {M:List G.E} (h:Ok n L) (hs:M.Sublist L):Ok n M:=
 ⟨h.n40,List.Pairwise.sublist hs h.up,Nat.le_trans hs.length_le h.len,λ e he=>h.ed e (hs.subset he)⟩
theorem z7a (L:List G.E) (k:Nat):(L.take k++L.drop (k+1)).Sublist L:=by
 rw [<-List.eraseIdx_eq_take_drop_succ];exact List.eraseIdx_sublist L k
theorem zcv {y i g:Nat} {u:Value} {o:Obj} {cs:Array Value} (hy:w.heap[y]? =some (.cells cs 85)) (hg:w.heap[g]? =some o) (ho:∀cur,o≠ .cells cur 85):(w.setCell ⟨y,i,none⟩ u).heap[g]? =some o:=by
 rw [Below.heap_setCell _ _ _ _ (show g≠y from λ e=>by subst e;exact ho cs (Option.some.inj (hg.symm.trans hy)))];exact hg
theorem z8n {y i:Nat} {u:Value} {cs:Array Value} (hy:w.heap[y]? =some (.cells cs 85)) (hb:S.BAt w q pw bw pt bt mp N W T D):S.BAt (w.setCell ⟨y,i,none⟩ u) q pw bw pt bt mp N W T D:=by
 obtain ⟨es,c,hm,F,hs,hD⟩:=hb.hm;exact ⟨zcv hy hb.hp (by simp),⟨zcv hy hb.sw.hp (by simp),zcv hy hb.sw.hb (by simp)⟩,⟨zcv hy hb.st.hp (by simp),zcv hy hb.st.hb (by simp)⟩,⟨es,c,zcv hy hm (by simp),F,hs,hD⟩,hb.pp,hb.bb⟩
theorem z6t {y i B' p':Nat} {m:Int} {u:Value} {cs:Array Value} (hy:w.heap[y]? =some (.cells cs 85)) (h:G.GAt w B' 168 61 p' m v L):G.GAt (w.setCell ⟨y,i,none⟩ u) B' 168 61 p' m v L:=by
 refine ⟨zcv hy h.hp (by simp),⟨h.row.1,?_⟩,h.ne⟩;rcases h.row.2 with hn | ⟨g,cap,cur,rfl,hB,hg,rest⟩
 ·exact .inl hn
 ·exact .inr ⟨g,cap,cur,rfl,hB,zcv hy hg (by simp),rest⟩
theorem z7k {w1:World} (h:S.Rn w1 w q pw bw pt bt mp n R B W T D N) (hb:Below w0.heap.size w0 w1):S.Rn w0 w q pw bw pt bt mp n R B W T D N:=
 {h with below:=hb.trans (h.below.mono hb.size),hb:=⟨Nat.le_trans hb.size h.hb.1,Nat.le_trans hb.size h.hb.2.1,Nat.le_trans hb.size h.hb.2.2⟩}
theorem z3j (id:Int) (w:World) (h:IAt w0 w x p q n v L R B W T D pw bw pt bt mp N) (hs:G.seen L id=none):
 Calls prog 18 #[.pointer (some ⟨x,0,none⟩),.int .i64 id] w λ e w'=>e= .returned (.iface 23 (.int .i64 7))/\Below w.heap.size w w':=by
 have HA:Hid _:=G.zz6 id (n:Int) w0.heap.size p v L w h.gra h.ok.up h.ok.len hs;have c0:=h.ix.c0;clear h;go_enter func18,ntmps18;go_wp2_with (go_at_call 55;refine Calls.mono HA.out ?_;rintro e w1 ⟨rfl,hb⟩);go_ret;exact ⟨rfl,hb⟩
end Go.Proofs.YtebcjaenhiiflaaGreatDoor.I
namespace Go.Proofs.YtebcjaenhiiflaaGreatDoor.I
open Go.RowKit Go.Proofs.Tryz
theorem z1p (x:Int) (h0:0<=x) (h1:x<=9223372036854775807) (w:World) (hv:Vars w):
 Calls prog 131 #[.int .i64 x] w λ e w'=>e= .returned (.string ⟨(Lib.itoa x).toArray⟩)/\Below w.heap.size w w':=by
 refine (Any.strconv_Itoa Tryz.laysM171 x (by omega) h1 w hv.tab).mono ?_;rintro e w' ⟨rfl,k,os,rfl⟩;exact ⟨rfl,Lib.below_grow _ _ (Nat.le_refl _) _ _⟩
theorem zo8:Builder.Extra prog Tryz.lays156_ren:=
 {sizeBuilder:=by kernel_rfl,liesBuilder:=by kernel_rfl,t5:=underlying5,a5:=isAgg5,z5:=sizeOf5,v5:=zeroValue5,infoByte:=by kernel_rfl,cellsByte:=by kernel_rfl,sizeByte:=by kernel_rfl,neB5:=by decide}
theorem join_eq:∀l:List (List UInt8),Lib.join l [32]=zbg l
 | []=>rfl
 | [x]=>by rw [Lib.join_one,zbg]
 | x::y::r=>by
   have ih:=join_eq (y::r);unfold Lib.join List.intercalate at ih ⊢;rw [zbg,<-ih];simp [List.intersperse]
theorem z2p (bk c k:Nat) (xs:List (List UInt8)) (w:World) (hk:k=xs.length) (hc:∀(j:Nat) x,xs[j]? =some x->w.cell? ⟨bk,j,none⟩=some (.string ⟨x.toArray⟩)) (hbk:bk<w.heap.size) (hN:xs.length<=100000) (hcap:xs.length<=c) (hlen:(zbg xs).length<=10000000):
 Calls prog 132 #[.slice (some ⟨bk,0,none⟩) k c,.string ⟨#[32]⟩] w λ e w'=>e= .returned (.string ⟨(zbg xs).toArray⟩)/\Below w.heap.size w w':=by
 subst hk;have hm:(xs.map λ x=>(⟨x.toArray⟩:ByteArray)).map (·.data.toList)=xs:=by
  rw [List.map_map];conv=>rhs;rw [<-List.map_id xs]
  rfl
 have h:=Any.strings_Join Tryz.lays156 zo8 bk 0 c (xs.map λ x=>(⟨x.toArray⟩:ByteArray)) ⟨#[32]⟩ w (λ j x hx=>by
  rw [List.getElem?_map] at hx;cases hq:xs[j]? with
  | none=>rw [hq] at hx;cases hx
  | some y=>
    rw [hq] at hx;injection hx with hx
    subst hx;rw [Nat.zero_add];exact hc j y hq) hbk (by rw [List.length_map];omega) (by rw [List.length_map];exact hcap) (by rw [hm];show (Lib.join xs [32]).length<=_;rw [join_eq];omega)
 rw [hm,List.length_map] at h;refine Calls.mono h ?_;rintro e w' ⟨rfl,hb⟩;refine ⟨?_,hb⟩;rw [show ((⟨#[32]⟩:ByteArray).data.toList)=[32] from rfl,join_eq]
theorem join_none (a:Option Addr) (c:Nat) (w:World):Calls prog 132 #[.slice a 0 c,.string ⟨#[32]⟩] w λ e w'=>e= .returned (.string ⟨#[]⟩)/\w'=w:=
 Any.strings_Join_none Tryz.lays156 zo8 a c ⟨#[32]⟩ w
def zwl (ns:List Int):List Value:=ns.map λ x=>.string ⟨(Lib.itoa x).toArray⟩
theorem yabg:(prog.info? 9).map (λ i=>(i.zero,i.size,i.bytes))=some (some (.string ByteArray.empty),1,16):=by kernel_rfl
def zuv (w0 w:World) (ns:List Int) (j:Nat) (v:Value):Prop:=w.ownsRow w0.heap.size 9 1 v j (zwl (ns.take j))/\Below w0.heap.size w0 w
theorem z5n {w0 w w1 w2:World} {ns:List Int} {j:Nat} {v v2:Value} {x:Int} {o:Obj} (h:zuv w0 w ns j v) (hb:Below w.heap.size w w1) (hx:ns[j]? =some x) (h2:w2.ownsRow w0.heap.size 9 1 v2 (j+1) (zwl (ns.take j)++[.string ⟨(Lib.itoa x).toArray⟩])) (hg:(w1.alloc o).grownBy w2 v.ownBlock):zuv w0 w2 ns (j+1) v2:=by
 have h1:=zhx h.1 hb;have hb1:=h.2.trans (hb.mono h.2.size);refine ⟨?_,(hb1.alloc hb1.size o).grown hg (by have:=hb1.size;simp;omega) λ k hk=>(h1.lt k hk).1⟩;rw [ziy hx]
 simpa [zwl] using h2
theorem z4d {w0 w:World} {ns:List Int} {j:Nat} {v:Value} (h:zuv w0 w ns j v) (hj:ns.length=j) (h0:0<j):∃g c,v= .slice (some ⟨g,0,none⟩) j c/\j<=c/\g<w.heap.size/\∀(i:Nat) y,(ns.map Lib.itoa)[i]? =some y->w.cell? ⟨g,i,none⟩=some (.string ⟨y.toArray⟩):=by
 subst hj;have h1:=h.1;rw [List.take_length] at h1;rcases h1.2 with ⟨_,hz⟩ | ⟨g,cap,cur,rfl,hb,hg,hc,_⟩
 ·omega
 ·refine ⟨g,cap,rfl,by omega,G.lt_of_some hg,λ i y hy=>?_⟩
  have:=h1.cells rfl i (.string ⟨y.toArray⟩) (by
   unfold zwl;rw [List.getElem?_map] at hy ⊢;cases hq:ns[i]? with
   | none=>rw [hq] at hy;cases hy
   | some z=>rw [hq] at hy;injection hy with hy;subst hy;rfl)
  rwa [G.zbm] at this
theorem zxj {w:World} {base e s n:Nat} {v:Value} {xs:List Value} (h:w.ownsRow base e s v n xs):∃a c,v= .slice a n c:=by
 rcases h.2 with ⟨rfl,hz⟩ | ⟨g,cap,cur,rfl,_⟩
 ·exact ⟨_,_,by rw [hz]⟩
 ·exact ⟨_,_,rfl⟩
theorem zn1 (a:Option Addr) (nb m c:Nat) (ns:List Int) (w:World) (hm:m=ns.length) (ha:0<m->a=some ⟨nb,0,none⟩) (hc:∀(j:Nat) x,ns[j]? =some x->w.cell? ⟨nb,j,none⟩=some (.int .i64 x)) (hr:∀x∈ns,0<=x/\x<=9223372036854775807) (h3:ns.length<=10000) (hv:Vars w):
 Calls prog 77 #[.slice a m c] w λ e w'=>e= .returned (.string ⟨(zax ns).toArray⟩)/\Below w.heap.size w w':=by
 have HC:=kd hc;have HR:=kd hr;have HV:=kd hv;have HM:=kd (And.intro hm h3);have HA:=kd ha;have hm3:m<=10000:=by omega
 clear hc hr hv hm h3 ha;go_enter func77,ntmps77;go_wp2_with fail;go_loopw [3,8] (λ s3 s8 wq=>∃j:Nat,j<=m/\s8= .int .i64 j/\zuv w wq ns j s3) (λ _ s8 _=>m-(RowKit.intOf s8).toNat)
 case atStart=>exact ⟨0,Nat.zero_le _,rfl,World.ownsRow_nil _ _ _ _,Below.refl _ _⟩
 case round=>
  obtain ⟨j,hj,rfl,hat⟩:=hrel;have HW:=kd hat;clear hat;by_cases hlt:j<m
  ·have hae:=HA.out (by omega)
   subst hae;have hjn:j<ns.length:=by have:=HM.out;omega
   have hx:ns[j]? =some ns[j]:=List.getElem?_eq_getElem hjn;have HX:=kd hx;have hxr:=HR.out _ (List.mem_of_getElem? hx);have hcx:wr.cell? ⟨nb,j,none⟩=some (.int .i64 ns[j]):=(HW.out.2.cell (p:=⟨nb,j,none⟩) (G.lt_of_cell (HC.out j _ hx))).trans (HC.out j _ hx);generalize ns[j]=x at*;have HI:Hid _:=z1p x hxr.1 hxr.2 wr (HV.out.on HW.out.2 HV.out.big);clear hx hjn hxr;obtain ⟨i0,hi,hz0,hz1,hz2⟩:=info_parts yabg;go_wp2_with (first
    | (go_at_call 131;refine Calls.mono HI.out ?_;rintro e w1 ⟨rfl,hb1⟩;have hrow:=zhx HW.out.1 hb1;have hsz:=Nat.le_trans HW.out.2.size hb1.size)
    | (at_builtin;refine wpList_append_own_at _ rfl _ _ 70 rfl w.heap.size 9 i0 (.string ByteArray.empty) 1 16 underlying70 hi hz0 hz1 hz2 rfl (by decide) u3 _ _ rfl (hrow.alloc _) ⟨w1.heap.size,0,none⟩ 1 1 [.string ⟨(Lib.itoa x).toArray⟩] rfl rfl (cell_one_new _ _ _) (by simp [Value.oneCell']) (by unfold maxLen;omega) (by omega) (by simp;omega) ?_;intro v2 w2 hown2 hg2 _ _))
   have HW2:Hid (zuv w w2 ns (j+1) v2):=z5n HW.out hb1 HX.out hown2 hg2;clear hown2 hg2 hrow hb1;go_wp2_with fail;go_roundw;case rel=>exact ⟨j+1,by omega,by go_num,HW2.out⟩
   case measure=>simp [RowKit.intOf];omega
  ·obtain rfl:j=m:=by omega
   by_cases h0:j=0
   ·subst h0
    have hn:ns=[]:=List.length_eq_zero_iff.1 (by have:=HM.out;omega);obtain ⟨aa,cc,hu⟩:=zxj HW.out.1;subst hu;subst hn;go_wp2_with (go_at_call 132;refine Calls.mono (join_none aa cc wr) ?_;rintro e w1 ⟨rfl,hw1⟩;subst w1);go_ret;exact ⟨rfl,HW.out.2⟩
   ·obtain ⟨g,cc,hu,hcc,hg,hcells⟩:=z4d HW.out HM.out.1.symm (by omega)
    have HJ:Hid _:=z2p g cc j (ns.map Lib.itoa) wr (by rw [List.length_map];exact HM.out.1) hcells hg (by rw [List.length_map];have:=HM.out;omega) (by rw [List.length_map];have:=HM.out;omega) (by
     have:=zdf HR.out;have:=HM.out;unfold zax at*;omega)
    subst hu;clear hcells;go_wp2_with (go_at_call 132;refine Calls.mono HJ.out ?_;rintro e w1 ⟨rfl,hb1⟩);go_ret;exact ⟨rfl,HW.out.2.trans (hb1.mono HW.out.2.size)⟩
theorem zmg (a b:List UInt8):(⟨a.toArray⟩:ByteArray)++(⟨b.toArray⟩:ByteArray)=⟨(a++b).toArray⟩:=by
 apply WideShapes.bytes_inj;rw [ByteArray.data_append];simp
theorem zyp:(⟨#[10]⟩:ByteArray)=⟨([10]:List UInt8).toArray⟩:=rfl
theorem zzj {w0 w:World} {e0 e1 e2:Int} (hb:Below w0.heap.size w0 w) (hv:Vars w0) (h0:0<=e0/\e0<=9223372036854775807) (h1:0<=e1/\e1<=9223372036854775807) (h2:0<=e2/\e2<=9223372036854775807):
 Calls prog 77 #[.slice (some ⟨w.heap.size+1,0,none⟩) 3 3] ((w.alloc (.cells #[.int .i64 e0,.int .i64 e1,.int .i64 e2] 61)).alloc (.cells #[.int .i64 e0,.int .i64 e1,.int .i64 e2] 3)) λ e w'=>e= .returned (.string ⟨(zax [e0,e1,e2]).toArray⟩)/\Below w.heap.size w w':=by
 have hb1:Below w.heap.size w ((w.alloc (.cells #[.int .i64 e0,.int .i64 e1,.int .i64 e2] 61)).alloc (.cells #[.int .i64 e0,.int .i64 e1,.int .i64 e2] 3)):=((Below.refl _ w).alloc (Nat.le_refl _) _).alloc (by simp) _;have hnew:=World.alloc_heap_new (w.alloc (.cells #[.int .i64 e0,.int .i64 e1,.int .i64 e2] 61)) (.cells #[.int .i64 e0,.int .i64 e1,.int .i64 e2] 3);rw [World.size_alloc] at hnew;refine (zn1 (some ⟨w.heap.size+1,0,none⟩) (w.heap.size+1) 3 3 [e0,e1,e2] _ rfl (λ _=>rfl) (λ j x hx=>?_) (λ x hx=>?_) (by simp) ((hv.on hb hv.big).below hb1)).mono ?_
 ·exact zi5 (ns:=[e0,e1,e2]) hnew hx
 ·simp at hx
  rcases hx with rfl | rfl | rfl <;> assumption
 ·rintro e w' ⟨rfl,hb2⟩
  exact ⟨rfl,hb1.trans (hb2.mono hb1.size)⟩
theorem zw7 (q n B:Nat) (u:Value) (R L:List G.E) (w:World) (hg:G.GAt w B 40 61 q (n:Int) u R) (hok:Ok n L) (hp:R.Perm L) (hv:Vars w):
 Calls prog 29 #[.pointer (some ⟨q,0,none⟩)] w λ e w'=>e= .returned (.string ⟨(svI n L).toArray⟩)/\Below w.heap.size w w':=by
 have HG:=kd hg;have HOK:=kd hok;have HP:=kd hp;have HV:=kd hv;have hc:=hg.c0;have hn0:(0:Int)<=(n:Int)/\(n:Int)<=40:=by have:=hok.n40;omega
 clear hg hok hp hv;go_enter func29,ntmps29;go_wp2_with fail;have hb1:Below w.heap.size w (w.alloc (.cells #[.int .i64 (n:Int)] 3)):=(Below.refl _ w).alloc (Nat.le_refl _) _;refine Calls.mono (zn1 (some ⟨w.heap.size,0,none⟩) w.heap.size 1 1 [(n:Int)] _ rfl (λ _=>rfl) (λ j x hx=>zi5 (ns:=[(n:Int)]) (World.alloc_heap_new w _) hx) (λ x hx=>by simp at hx;omega) (by simp) (HV.out.below hb1)) ?_;rintro e w2 ⟨rfl,hb2⟩;have HB2:Hid (Below w.heap.size w w2):=hb1.trans (hb2.mono hb1.size);have HE:Hid _:=G.zer B q (n:Int) u R L w2 (HG.out.below HB2.out) ⟨HOK.out.up,HP.out,HOK.out.len⟩;have hlen:L.length<=120:=HOK.out.len;have hst:(⟨(zax [(n:Int)]).toArray⟩:ByteArray)++⟨#[10]⟩=⟨(svI n (L.take 0)).toArray⟩:=by
  rw [zyp,zmg];simp [svI]
 have hsz1:¬9223372036854775807<(zax [(n:Int)]).length+1:=by
  have:=zdf (ns:=[(n:Int)]) (λ x hx=>by simp at hx;omega);simp at this;omega
 generalize hll:L.length=len at hlen;have HLL:=kd hll;clear hll hb1 hb2 hc;go_wp2_with (go_at_call 15;refine Calls.mono HE.out ?_;rintro e w3 ⟨u3,rfl,hu3,hb3⟩;obtain ⟨a3,c3,hu3e⟩:=hu3.zal;rw [HLL.out] at hu3e;subst hu3e);have HB3:Hid (Below w.heap.size w w3):=HB2.out.trans (hb3.mono HB2.out.size);have HU:=kd hu3;have HST:Hid _:=hst;clear hb3 HE hu3 hst;go_loopw [3,16] (λ s3 s16 wq=>∃j:Nat,j<=len/\s16= .int .i64 j/\s3= .string ⟨(svI n (L.take j)).toArray⟩/\Below w.heap.size w wq/\G.zad wq w2.heap.size 61 (.slice a3 len c3) L) (λ _ s16 _=>len-(RowKit.intOf s16).toNat)
 case atStart=>exact ⟨0,Nat.zero_le _,rfl,rfl,HB3.out,HU.out⟩
 case round=>
  obtain ⟨j,hj,rfl,rfl,hbr,how⟩:=hrel;have HBR:=kd hbr;have HO:=kd how;clear hbr how;by_cases hlt:j<len
  ·have hjn:j<L.length:=by have:=HLL.out;omega
   have hx:L[j]? =some L[j]:=List.getElem?_eq_getElem hjn;have HXE:=kd hx;have HXR:Hid _:=HOK.out.ed _ (List.mem_of_getElem? hx);obtain ⟨g3,rfl⟩:=ztp HO.out (by omega);obtain ⟨hc0,hc1,hc2⟩:=zr3 HO.out rfl hx;have HNX:Hid (svI n (L.take (j+1))=svI n (L.take j)++edI L[j]):=zp9 hx;generalize L[j]=ee at*;obtain ⟨e0,e1,e2⟩:=ee;dsimp only at hc0 hc1 hc2;have hxr:=HXR.out;dsimp only at hxr;have HD:Hid _:=zzj (e0:=e0) (e1:=e1) (e2:=e2) HBR.out HV.out (by omega) (by omega) (by omega);have hst:(⟨(svI n (L.take j)).toArray⟩:ByteArray)++((⟨(zax [e0,e1,e2]).toArray⟩:ByteArray)++⟨#[10]⟩)=⟨(svI n (L.take (j+1))).toArray⟩:=by
    rw [zyp,zmg,zmg,HNX.out];rfl
   have HST2:Hid _:=hst;have hsz2:¬9223372036854775807<(zax [e0,e1,e2]).length+1:=by
    have:=zdf (ns:=[e0,e1,e2]) (λ x hx=>by simp at hx;rcases hx with rfl | rfl | rfl <;> omega);simp at this;omega
   have hsz3:¬9223372036854775807<(svI n (L.take j)).length+((zax [e0,e1,e2]).length+1):=by
    have h1:=zdf (ns:=[e0,e1,e2]) (λ x hx=>by simp at hx;rcases hx with rfl | rfl | rfl <;> omega);have h2:=zl8 HOK.out j;simp at h1;omega
   clear hx hjn hst hxr;go_wp2_with fail;refine Calls.mono HD.out ?_;rintro e w4 ⟨rfl,hb4⟩;have HB4:Hid (Below w.heap.size w w4):=HBR.out.trans (hb4.mono HBR.out.size);have HO4:Hid (G.zad w4 w2.heap.size 61 (.slice (some ⟨g3,0,none⟩) len c3) L):=HO.out.below hb4;clear hb4 hc0 hc1 hc2;go_wp2_with fail;go_roundw;case rel=>exact ⟨j+1,by omega,by go_num,by rw [HST2.out],HB4.out,HO4.out⟩
   case measure=>simp [RowKit.intOf];omega
  ·obtain rfl:j=len:=by omega
   have HTK:Hid (L.take j=L):=by show L.take j=L;rw [<-HLL.out];exact List.take_length
   go_wp2_with fail;go_ret;exact ⟨by rw [HTK.out];rfl,HBR.out⟩
def z4g (w:World) (B q n:Nat) (u:Value) (R L:List G.E) (id a b:Int) (e:Ending) (w':World):Prop:=
 e= .returned (.int .i64 (zbp n L id a b))/\((zbp n L id a b=0/\G.zfx w w' B 40 q (n:Int) u (R++[edg id a b]))\/(zbp n L id a b≠0/\Below w.heap.size w w'))
theorem z0s (q n B:Nat) (u:Value) (R L:List G.E) (id a b:Int) (w:World) (hg:G.GAt w B 40 61 q (n:Int) u R) (hB:B<=w.heap.size) (hok:Ok n L) (hp:R.Perm L):
 Calls prog 20 #[.pointer (some ⟨q,0,none⟩),.int .i64 id,.int .i64 a,.int .i64 b] w (z4g w B q n u R L id a b):=by
 have h40:=hok.n40;have hl:R.length=L.length:=hp.length_eq;by_cases hr:G.zb4 id a b (n:Int)
 ·by_cases hab:a=b
  ·subst hab
   refine (G.z1v id a (n:Int) B q u R w hg (by omega) (by omega) hr).mono ?_;rintro e w' ⟨rfl,hb⟩;have e1:zbp n L id a a=1:=by unfold zbp;rw [if_neg (by simpa using hr),if_pos rfl]
   exact ⟨by rw [e1],.inr ⟨by rw [e1];decide,hb⟩⟩
  ·refine (G.z7t id a b (n:Int) (min a b) (max a b) B q u R w hg hB (by have:=hok.len;omega) (by omega) (by omega) hr hab rfl rfl).mono ?_
   rintro e w' (⟨⟨x,hx,hxi⟩,rfl,hb⟩ | ⟨hno,hf,rfl,hb⟩ | ⟨hno,hf,rfl,hs⟩)
   ·have e1:zbp n L id a b=9:=by
     unfold zbp;rw [if_neg (by simpa using hr),if_neg hab,if_pos (by rw [G.zix hok.up (hp.mem_iff.1 hx) hxi];rfl)]
    exact ⟨by rw [e1],.inr ⟨by rw [e1];decide,hb⟩⟩
   ·have hs:G.seen L id=none:=G.seen_none (λ x hx=>hno x (hp.mem_iff.2 hx))
    have e1:zbp n L id a b=12:=by
     unfold zbp;rw [if_neg (by simpa using hr),if_neg hab,if_neg (by rw [hs];simp),if_pos (by omega)]
    exact ⟨by rw [e1],.inr ⟨by rw [e1];decide,hb⟩⟩
   ·have hs':G.seen L id=none:=G.seen_none (λ x hx=>hno x (hp.mem_iff.2 hx))
    have e1:zbp n L id a b=0:=by
     unfold zbp;rw [if_neg (by simpa using hr),if_neg hab,if_neg (by rw [hs'];simp),if_neg (by omega)]
    exact ⟨by rw [e1],.inl ⟨e1,hs⟩⟩
 ·refine (G.zva id a b (n:Int) B q u R w hg (by omega) (by omega) hr).mono ?_
  rintro e w' ⟨rfl,hb⟩;have e1:zbp n L id a b=2:=by unfold zbp;rw [if_pos hr]
  exact ⟨by rw [e1],.inr ⟨by rw [e1];decide,hb⟩⟩
end Go.Proofs.YtebcjaenhiiflaaGreatDoor.I
namespace Go.Proofs.YtebcjaenhiiflaaGreatDoor.S
open Go.Proofs.Tryz
open Go.RowKit Go.WideMaps Go.Maps
theorem zvn {ss K:List Int} (h:ss.Perm K) (hK:K.Pairwise (·<·)):(ss.mergeSort λ x y=>decide (x<=y))=K:=by
 have tr:∀a b c:Int,decide (a<=b)=true->decide (b<=c)=true->decide (a<=c)=true:=λ a b c h1 h2=>by simp only [decide_eq_true_eq] at*;omega
 have tot:∀a b:Int,(decide (a<=b) || decide (b<=a))=true:=λ a b=>by simp only [Bool.or_eq_true,decide_eq_true_eq];omega
 exact List.Perm.eq_of_pairwise (le:=λ a b=>decide (a<=b)=true) (λ a b _ _ h1 h2=>by simp only [decide_eq_true_eq] at h1 h2;omega) (List.pairwise_mergeSort tr tot ss) (hK.imp λ {a b} h=>by simp only [decide_eq_true_eq];omega) ((List.mergeSort_perm ss _).trans h)
theorem yabk {R:List (Int × Int × Int)} {n:Nat} {l:List Nat} (hin:∀e∈R,ea e<n/\eb e<n) (g:Good R.length l) (hl:∀u v,Lk R.length l u v↔Blk R u v):Bs R n [] l:=by
 refine ⟨g,λ u v=>?_⟩;rw [hl];constructor
 ·intro h
  refine zae.lift h ?_;rintro p q ⟨y,h⟩;obtain ⟨e,f,h1,h2,h3,h4,_⟩:=id h;have:=hin e (List.mem_of_getElem? h1);refine zae.base (.inl ⟨y,?_,h⟩);unfold tch at h3;omega
 ·intro h
  refine zae.lift h ?_;rintro p q (⟨y,_,h⟩ | ⟨h,_⟩)
  ·exact zae.base ⟨y,h⟩
  ·simp at h
def Rd (w:World) (a:Option Addr) (Gs:List (List Nat)) (c:Nat):Prop:=0<c->∃g,a=some ⟨g,0,none⟩/\zcf w g Gs c
theorem zqa {w w':World} {g c:Nat} {Gs:List (List Nat)} (h:zcf w g Gs c) (hb:Below w.heap.size w w'):zcf w' g Gs c:=by
 intro i hi;obtain ⟨r,cap,h1,h2⟩:=h i hi;exact ⟨r,cap,cell_below h1 hb,λ j hj=>cell_below (h2 j hj) hb⟩
theorem Rd.below {w w':World} {a:Option Addr} {Gs:List (List Nat)} {c:Nat} (h:Rd w a Gs c) (hb:Below w.heap.size w w'):Rd w' a Gs c:=λ hc=>by
 obtain ⟨g,h1,h2⟩:=h hc;exact ⟨g,h1,zqa h2 hb⟩
theorem zt8 {n:Nat} (L:List Nat) (hg:Good n L) (hn:n<=40) (ad:Option Addr) (cap x y:Nat) (s:Bool) (w:World) (h:Rd w ad (zao L n) (zao L n).length) (hx:x<n) (hy:y<n) (hs:(((L.getD x 0:Nat):Int)==((L.getD y 0:Nat):Int))=s):
 Calls prog 28 #[.slice ad (zao L n).length cap,.int .i64 (x:Int),.int .i64 (y:Int)] w λ e w'=>e= .returned (.bool s)/\w'=w:=by
 refine z7e ad _ cap x y (zao L n) s w h ?_ (λ i=>Nat.le_trans (zwz hg i) (by omega)) ?_
 ·have:=ztu L n;omega
 ·rw [<-z5g hg hx hy,<-hs,beq_iff_eq]
  omega
theorem zu6 {K:List Int} {x:Int} {k:Nat} {t:Bool} (h:t=true↔∃j,j<k/\K.getD j 0=x):((t || (K.getD k 0==x))=true↔∃j,j<k+1/\K.getD j 0=x):=by
 rw [Bool.or_eq_true,h,beq_iff_eq];constructor
 ·rintro (⟨j,h1,h2⟩ | h1)
  ·exact ⟨j,by omega,h2⟩
  ·exact ⟨k,by omega,h1⟩
 ·rintro ⟨j,h1,h2⟩
  by_cases hj:j=k
  ·subst hj;exact .inr h2
  ·exact .inl ⟨j,by omega,h2⟩
theorem zxi {K:List Int} {x:Int}:(∃j,j<K.length/\K.getD j 0=x)↔x∈K:=by
 constructor
 ·rintro ⟨j,h1,rfl⟩
  simp [h1]
 ·intro h
  obtain ⟨j,h1,rfl⟩:=List.mem_iff_getElem.1 h;exact ⟨j,h1,by simp [h1]⟩
end Go.Proofs.YtebcjaenhiiflaaGreatDoor.S
namespace Go.Proofs.YtebcjaenhiiflaaGreatDoor.I
open Go.Proofs.Tryz
open Go.RowKit Go.WideMaps Go.Maps Go.Lib
variable {w0 w w':World} {a b x p q n:Nat} {v:Value} {L R B:List G.E} {W T:List Nat} {D:DataW Unit} {pw bw pt bt mp N g:Nat}
theorem zjj (s:S.St n R W T B) (hp:R.Perm L):S.St n L W T B:=by
 have hm:(λ e=>e∈R)=λ e=>e∈L:=by funext e;exact propext hp.mem_iff
 exact ⟨s.gw,s.gt,λ e he=>s.inn e (hp.mem_iff.2 he),λ e he=>s.nat e (hp.mem_iff.2 he),λ e he d hd=>s.one e (hp.mem_iff.2 he) d (hp.mem_iff.2 hd),
  λ u v=>by rw [s.hW];simp only [S.cnR];rw [hm],λ u v=>by rw [s.hT];simp only [S.twR];rw [hm],λ e=>by rw [s.hB];simp only [S.brR];rw [hm]⟩
theorem IV.st (h:IV w a b x n L):∃W T B,S.St n L W T B:=by
 obtain ⟨p,q,v,R,B,W,T,D,pw,bw,pt,bt,mp,N,g,h⟩:=h;exact ⟨W,T,B,zjj h.now.st h.perm⟩
theorem zuf (s:S.St n L W T B) (hok:Ok n L):brz n L=S.zav L B:=by
 rw [<-zpd s (List.Perm.refl _) hok.unl];unfold S.ups;exact S.zvn (List.Perm.refl _) (S.z1a hok.up)
theorem z5u (s:S.St n L W T B) (hok:Ok n L) (id:Int):id∈brz n L↔∃e∈B,e.1=id:=by
 rw [zuf s hok];exact S.z5z (λ e he=>((s.hB e).1 he).1) id
def DV (w:World) (q n:Nat) (L:List G.E):Prop:=∃B u R,G.GAt w B 40 61 q (n:Int) u R/\R.Perm L
theorem DV.below (h:DV w q n L) (hb:Below w.heap.size w w'):DV w' q n L:=by
 obtain ⟨B,u,R,h1,h2⟩:=h;exact ⟨B,u,R,h1.below hb,h2⟩
theorem Ok.inv (h:Ok n L) (hp:R.Perm L):G.Inv R L:=⟨h.up,hp,h.len⟩
theorem Ok.one (h:Ok n L):∀d∈L,∀e∈L,d.1=e.1->d=e:=S.zmf h.ups
theorem zh5 (h:Ok n L) (hp:R.Perm L):S.InE n R:=λ e he=>h.inE e (hp.mem_iff.1 he)
theorem z8h (h:DV w q n L) (hok:Ok n L):
 Calls prog 15 #[.pointer (some ⟨q,0,none⟩)] w λ e w'=>∃u,e= .returned u/\G.zad w' w.heap.size 61 u L/\Below w.heap.size w w':=by
 obtain ⟨B,u,R,h1,h2⟩:=h;exact G.zer B q (n:Int) u R L w h1 (hok.inv h2)
theorem zrm (h:DV w q n L) (hok:Ok n L) (s:S.St n L W T B):
 Calls prog 22 #[.pointer (some ⟨q,0,none⟩)] w λ e w'=>∃a c,e= .returned (.slice a (brz n L).length c)/\Zs w' a (brz n L)/\Below w.heap.size w w':=by
 obtain ⟨B0,u,R,h1,h2⟩:=h;refine (S.zsv (Bs:=B) n B0 q u R L w h1 (hok.inv h2) hok.len hok.n40 hok.inE (λ e he=>?_)).mono ?_
 ·rw [s.hB]
  exact S.z9b hok.one (λ e=>h2.mem_iff) he
 ·rintro e w' ⟨v,rfl,hrow,hb⟩
  rw [<-zuf s hok] at hrow;obtain ⟨a,c,rfl,hs⟩:=zfq hrow;exact ⟨a,c,rfl,hs,hb⟩
theorem yab5 (h:DV w q n L) (hok:Ok n L):
 Calls prog 63 #[.pointer (some ⟨q,0,none⟩)] w λ e w'=>∃a c,e= .returned (.slice a (ze8 n L).length c)/\Zs w' a (ze8 n L)/\Below w.heap.size w w':=by
 obtain ⟨B0,u,R,h1,h2⟩:=h;refine (S.z1t n B0 q 120 u R L w h1 (hok.inv h2) hok.ed' hok.n40).mono ?_;rintro e w' ⟨v,cs,rfl,hcs,hr,hb⟩;have e1:S.zbl cs=(ze8 n L).map (Value.int .i64):=by
  rw [<-zjk hcs,List.map_map];rfl
 have e2:cs.length=(ze8 n L).length:=by rw [<-zjk hcs,List.length_map]
 rw [e1,e2] at hr;obtain ⟨a',c,rfl,hs⟩:=zfq hr;exact ⟨a',c,rfl,hs,hb⟩
theorem z5i (h:DV w q n L) (hok:Ok n L):
 Calls prog 62 #[.pointer (some ⟨q,0,none⟩)] w (S.zb9 w (blz n L)):=by
 obtain ⟨B0,u,R,h1,h2⟩:=h;refine (S.zvz n B0 q 120 u R L w h1 (hok.inv h2) hok.ed' (Nat.le_refl _) hok.n40).mono ?_;rintro e w' ⟨l,hg,hl,hr⟩;rw [<-zzw (n:=n) (S.yabk (λ e he=>⟨(hok.inE e he).1,(hok.inE e he).2.1⟩) hg hl)];exact hr
theorem yacs (hok:Ok n L) (hp:R.Perm L):prz n L=S.zam L (S.dq n R):=by
 unfold prz;exact S.z4h (S.zi7 L hok.cyc.nd hok.cyc.inn.nodes) hok.cyc (λ e=>hp.mem_iff)
theorem yaag (h:DV w q n L) (hok:Ok n L):
 Calls prog 65 #[.pointer (some ⟨q,0,none⟩)] w λ e w'=>∃v,e= .returned v/\S.zan w' w.heap.size v (prz n L)/\Below w.heap.size w w':=by
 obtain ⟨B0,u,R,h1,h2⟩:=h;rw [yacs hok h2];exact S.zz0 n B0 q u R L w h1 (hok.inv h2) hok.len hok.n40 hok.inE
theorem z8t (h:DV w q n L) (hok:Ok n L):
 Calls prog 66 #[.pointer (some ⟨q,0,none⟩)] w λ e w'=>∃v,e= .returned v/\S.X.zan w' w.heap.size v (spz n L)/\Below w.heap.size w w':=by
 obtain ⟨B0,u,R,h1,h2⟩:=h;have hl:=hok.len;have:=h2.length_eq;refine S.X.zwo n B0 q u R (open Classical in λ a b=>decide (S.X.zfz L n a b)) w h1 hok.n40 (zh5 hok h2) (by omega) (λ a b _ _=>Iff.trans (by simp:_↔S.X.zfz L n a b) ?_);rw [S.X.zkp,S.X.zkp];simp only [S.X.zcc,S.X.zxc (λ e=>h2.mem_iff) (λ z=>Iff.rfl)]
theorem z6h (h:DV w q n L) (hok:Ok n L):
 Calls prog 67 #[.pointer (some ⟨q,0,none⟩)] w (S.zb9 w (thz n L)):=by
 obtain ⟨B0,u,R,h1,h2⟩:=h;have hl:=hok.len;have:=h2.length_eq;unfold thz;exact S.zu1 n B0 q u R _ w h1 (by omega) hok.n40 (zh5 hok h2) (S.zic _ _ _ _) (λ x y hx hy=>S.zxb (S.zi7 L hok.cyc.nd hok.cyc.inn.nodes) hok.cyc (λ e=>h2.mem_iff) hx hy)
theorem z9n (h:DV w q n L) (hok:Ok n L) (s:S.St n L W T B):
 Calls prog 24 #[.pointer (some ⟨q,0,none⟩)] w (S.zb9 w (S.zao W n)):=by
 obtain ⟨B0,u,R,h1,h2⟩:=h;have hl:=hok.len;have:=h2.length_eq;have s':=zjj s h2.symm;exact S.z0c n B0 q u R W w h1 (by omega) hok.n40 (zh5 hok h2) s.gw (λ x y hx hy=>by rw [<-s'.hW,S.Lk.iff hx hy])
theorem z9x (h:DV w q n L) (hok:Ok n L) (s:S.St n L W T B):
 Calls prog 25 #[.pointer (some ⟨q,0,none⟩)] w (S.zb9 w (S.zao T n)):=by
 obtain ⟨B0,u,R,h1,h2⟩:=h;have hl:=hok.len;have:=h2.length_eq;have s':=zjj s h2.symm;exact S.zxh n B0 q u R T w h1 (by omega) hok.n40 (zh5 hok h2) s.gt (λ x y hx hy=>s'.yac1 hx hy)
theorem z94 (h:DV w q n L) (hok:Ok n L) (hv:Vars w):
 Calls prog 29 #[.pointer (some ⟨q,0,none⟩)] w λ e w'=>e= .returned (.string ⟨(svI n L).toArray⟩)/\Below w.heap.size w w':=by
 obtain ⟨B0,u,R,h1,h2⟩:=h;exact zw7 q n B0 u R L w h1 hok h2 hv
theorem yaaw (h:IV w a b x n L) (s:S.St n L W T B) (i j:Nat) (hi:i<n) (hj:j<n):
 Calls prog 26 #[.pointer (some ⟨x,0,none⟩),.int .i64 (i:Int),.int .i64 (j:Int)] w λ e w'=>e= .returned (.tuple #[.bool (((W.getD i 0:Nat):Int)==((W.getD j 0:Nat):Int)),.nilIface])/\Below w.heap.size w w':=by
 obtain ⟨p,q,v,R,B',W',T',D,pw,bw,pt,bt,mp,N,g,h⟩:=h;have hW:W'=W:=(S.zkq h.now.st s h.perm h.unl).1;have hl:=h.now.st.gw.len;have HI:Hid _:=S.zko i j _ w h.now.at_ (by rw [hl];exact hi) (by rw [hl];exact hj) rfl;have hc:=h.ix.c1;rw [<-hW];clear h hW hl;go_enter func26,ntmps26;go_wp2_with (go_at_call 75;refine Calls.mono HI.out ?_;rintro e w1 ⟨rfl,hb⟩);go_ret2;exact ⟨rfl,hb⟩
end Go.Proofs.YtebcjaenhiiflaaGreatDoor.I
namespace Go.Proofs.YtebcjaenhiiflaaGreatDoor.G
open Go.RowKit Go.Proofs.Tryz
theorem zhm {ops:Array Oper} {o:Oper} {a:Act} {w:World} {K:Act->World->Prop} {Q:Exit->Act->World->Prop} {F:Prop}
 (hg:o.guard=none) (d x:Operand) (hop:o.op=Op.call {callee:=Callee.builtin Builtin.append,args:=#[d,x],argTypes:=#[33,33]})
 (w0:World) (B q:Nat) (n:Int) (uq:Value) (R:List E) (hG:GAt w0 B 40 61 q n uq R) (v:Value) (M:List E) (ho:zad w w0.heap.size 61 v M) (hb:Below w0.heap.size w0 w)
 (A:Addr) (m c:Nat) (N:List E) (hm:m=N.length) (hN:∀j u,(zaf N)[j]? =some u->w0.cell? (A.add j)=some u) (hd:a.eval d=v) (hx:a.eval x= .slice (some A) m c) (hl:M.length+N.length<=100000)
 (hK:∀a' m' c' w',Hid (zad w' w0.heap.size 61 (.slice a' m' c') (M++N)/\Below w0.heap.size w0 w')->w'.cell? ⟨q,1,none⟩=some uq->w'.frozen? ⟨q,1,none⟩=false->K (a.put o.dst (.slice a' m' c')) w'):
 if Region.wanted o (yielded ops a.tmps)=true then Oper.wp prog o a w K Q else F:=by
 obtain ⟨v',w',h1,h2,h3,_⟩:=zhk o.type w w0.heap.size v M N ho hb.size A m c hm (λ j u hu=>by
  have e:=hN j u hu;rw [<-e];exact hb.cell (World.block_lt_of_cell? _ _ e)) hl
 obtain ⟨a',m',c',rfl⟩:=h2.slice;have hb':Below w0.heap.size w w':=⟨h3.os,h3.tape,h3.output,h3.size,λ k hk=>h3.block k (Nat.lt_of_lt_of_le hk hb.size) (λ e=>by
  have:=(World.ownsRow.lt ho k e.symm).1;omega)⟩
 have hb2:=hb.trans hb';exact zau hg d x 33 33 hop _ _ hd hx h1 (hK _ _ _ _ ⟨h2,hb2⟩ (hG.below hb2).c1 ((hG.below hb2).f1 1))
theorem zlt {W w:World} (o:Obj) (h:w.heap=(W.alloc o).heap) (h1:w.os=W.os) (h2:w.tape=W.tape) (h3:w.output=W.output):Below W.heap.size W w:=
 ⟨h1,h2,h3,by rw [h];exact (zat W o).size,λ k hk=>by rw [h];exact (zat W o).block k hk⟩
def zz8 (w:World) (B q:Nat) (n:Int) (u:Value) (R:List E) (id:Int) (e:Ending) (w':World):Prop:=
 ((∀x∈R,x.1≠id)/\e= .returned (.int .i64 7)/\Below w.heap.size w w')\/
 (∃i x,R[i]? =some x/\x.1=id/\e= .returned (.int .i64 0)/\zfx w w' B 40 q n u (R.take i++R.drop (i+1)))
theorem zxe (id n:Int) (B q:Nat) (u:Value) (R:List E) (w:World) (h:GAt w B 40 61 q n u R) (hB:B<=w.heap.size) (hl:R.length<=120):
 Calls prog 19 #[.pointer (some ⟨q,0,none⟩),.int .i64 id] w λ e w'=>zz8 w B q n u R id e w':=by
 have hu1:=h.c1;have HG:=kd h;have HB:=kd hB;obtain ⟨m,hm⟩:∃m,m=R.length:=⟨_,rfl⟩;have HM:=kd hm;obtain ⟨ua,uc,hv⟩:=h.row.zal;rw [<-hm] at hv hl;have HV:=kd hv;rw [hv] at hu1;clear h hB hv hm;go_enter func19,ntmps19;go_wp2_with fail;go_loopg [5,6,12] m (λ r _ _ s12 wq=>∃k:Nat,s12= .int .i64 k/\k+r=m/\(∀x∈R.take k,x.1≠id)/\Below w.heap.size w wq)
 case atStart=>exact ⟨0,rfl,by omega,λ x hx=>by simp at hx,Below.refl _ _⟩
 case round=>
  obtain ⟨k,rfl,hk,hno,hb⟩:=hrel;have HNO:=kd hno;have HBW:=kd hb;clear hno hb;by_cases hlt:k<m
  ·obtain ⟨x0,x1,x2,hx⟩:∃x0 x1 x2,R[k]? =some (x0,x1,x2):=⟨_,_,_,List.getElem?_eq_getElem (by rw [<-HM.out];exact hlt)⟩
   have HX:=kd hx;obtain ⟨g,hua,hcap,hcm⟩:∃g,ua=some ⟨g,0,none⟩/\m<=uc/\uc<=9223372036854775807:=by
    rcases HG.out.row.shape with ⟨_,e⟩ | ⟨g,cap,e,_,_,e3,e4⟩
    ·rw [e] at hx;simp at hx
    ·rw [HV.out] at e
     injection e with e1 _ e2
     refine ⟨g,e1,by rw [e2,HM.out];exact e3,by rw [e2];simp only [maxLen] at e4;omega⟩
   have hgr:=HG.out.below HBW.out;obtain ⟨r0,r1,r2⟩:=hgr.row.at (g:=g) (by rw [HV.out,hua];rfl) hx;have r0':wr.cell? ⟨g,k*3,none⟩=some (.int .i64 x0):=r0;have r1':wr.cell? ⟨g,k*3+1,none⟩=some (.int .i64 x1):=r1;have r2':wr.cell? ⟨g,k*3+2,none⟩=some (.int .i64 x2):=r2;have HB1:Hid (∀o,Below w.heap.size w (wr.alloc o)):=λ o=>HBW.out.alloc HBW.out.size _
   clear r0 r1 r2 hx hgr;subst hua;by_cases hid:x0=id
   ·obtain ⟨W0,hW0⟩:∃W0,W0=wr.alloc (.cells #[.int .i64 x0,.int .i64 x1,.int .i64 x2] 61):=⟨_,rfl⟩
    have HB2:Hid (Below w.heap.size w W0):=by
     show Below w.heap.size w W0;rw [hW0];exact HB1.out _
    have HG0:Hid (GAt W0 B 40 61 q n (.slice (some ⟨g,0,none⟩) m uc) R):=by
     have:=HG.out.below HB2.out;rw [HV.out] at this;exact this
    have s1:W0.cell? ⟨q,1,none⟩=some (.slice (some ⟨g,0,none⟩) m uc):=HG0.out.c1;have s2:W0.frozen? ⟨q,1,none⟩=false:=HG0.out.f1 1;have HT1:Hid (∀j u,(zaf (R.take k))[j]? =some u->W0.cell? ((⟨g,0,none⟩:Addr).add j)=some u):=by
     intro j u hu;refine World.ownsRow.cells HG0.out.row rfl j u ?_;rw [<-zgu,List.getElem?_take] at hu;split at hu
     ·exact hu
     ·cases hu
    have HT2:Hid (∀j u,(zaf (R.drop (k+1)))[j]? =some u->W0.cell? ((⟨g,(k+1)*3,none⟩:Addr).add j)=some u):=zfs HG0.out.row rfl (k+1);have HL1:Hid (k=(R.take k).length):=by
     show k=(R.take k).length;rw [List.length_take,<-HM.out];omega
    have HL2:Hid (m-(k+1)=(R.drop (k+1)).length):=by
     show m-(k+1)=(R.drop (k+1)).length;rw [List.length_drop,<-HM.out]
    have HL3:Hid (([]:List E).length+(R.take k).length<=100000/\(R.take k).length+(R.drop (k+1)).length<=100000):=by
     have h1:=HL1.out;have h2:=HL2.out;exact ⟨by rw [<-h1];simp;omega,by rw [<-h1,<-h2];omega⟩
    have HW0:=kd hW0;have hw1:IntKind.i64.wrap ((k:Int)+1)=(k:Int)+1:=by rw [IntKind.wrap_i64];omega
    have hb1:(0:Int)<=(k:Int)+1:=by omega
    have hb3:(k:Int)+1<=(m:Int):=by omega
    have hb4:(k:Int)<=(uc:Int):=by omega
    have htn:((k:Int)+1).toNat=k+1:=by omega
    have hq0:q<W0.heap.size:=HG0.out.plt;subst hid;clear hW0 HB1 HNO;go_wp2_with fail;rw [<-HW0.out];clear HW0;by_cases hcj:uc=k+1
    ·have HT3:Hid (∀j u,(zaf (R.drop (k+1)))[j]? =some u->W0.cell? ((⟨g,0,none⟩:Addr).add j)=some u):=by
      intro j u hu;have h0:R.drop (k+1)=[]:=List.drop_eq_nil_of_le (by rw [<-HM.out];omega);rw [h0] at hu;simp [zaf] at hu
     have hmk:m=k+1:=by omega
     have HL4:Hid (0=(R.drop (k+1)).length):=by
      show 0=(R.drop (k+1)).length;rw [<-HL2.out];omega
     subst hmk;subst hcj;have hb7:(k:Int)<=(k:Int)+1:=by omega
     go_region_law (first
      | (refine zhm rfl (.tmp 22) (.tmp 28) rfl W0 B q n _ R HG0.out (.slice (some ⟨W0.heap.size,0,none⟩) 0 0) [] (by exact zhu W0) (zlt (.cells #[] 61) rfl rfl rfl rfl) ⟨g,0,none⟩ k (k+1) (R.take k) HL1.out HT1.out (by first | rfl | (simp [Act.eval];done) | (simp [Act.eval,Act.put];done)) (by first | rfl | (simp [Act.eval];done) | (simp [Act.eval,Act.put];done)) HL3.out.1 ?_;intro a1 m1 c1 w1 h1 q1 f1)
      | (refine zhm rfl (.tmp 29) (.tmp 36) rfl W0 B q n _ R HG0.out (.slice a1 m1 c1) (R.take k) h1.out.1 h1.out.2 ⟨g,0,none⟩ 0 0 (R.drop (k+1)) HL4.out HT3.out (by first | rfl | (simp [Act.eval];done) | (simp [Act.eval,Act.put];done)) (by first | rfl | (simp [Act.eval];done) | (simp [Act.eval,Act.put];done)) HL3.out.2 ?_;intro a2 m2 c2 w2 h2 q2 f2))
     all_goals
      go_wp2_with fail;go_ret;refine Or.inr ⟨k,_,HX.out,rfl,rfl,?_⟩;have hst:=zja HG.out HB.out HB2.out h2.out.1 h2.out.2;exact hst.1
    ·go_region_law (first
      | (refine zhm rfl (.tmp 22) (.tmp 28) rfl W0 B q n _ R HG0.out (.slice (some ⟨W0.heap.size,0,none⟩) 0 0) [] (by exact zhu W0) (zlt (.cells #[] 61) rfl rfl rfl rfl) ⟨g,0,none⟩ k uc (R.take k) HL1.out HT1.out (by first | rfl | (simp [Act.eval];done) | (simp [Act.eval,Act.put];done)) (by first | rfl | (simp [Act.eval];done) | (simp [Act.eval,hcj];done) | (simp [Act.eval,Act.put,hcj];done)) HL3.out.1 ?_;intro a1 m1 c1 w1 h1 q1 f1)
      | (refine zhm rfl (.tmp 29) (.tmp 36) rfl W0 B q n _ R HG0.out (.slice a1 m1 c1) (R.take k) h1.out.1 h1.out.2 ⟨g,(k+1)*3,none⟩ (m-(k+1)) (uc-(k+1)) (R.drop (k+1)) HL2.out HT2.out (by first | rfl | (simp [Act.eval];done) | (simp [Act.eval,Act.put];done)) (by first | rfl | (simp [Act.eval];done) | (simp [Act.eval,hcj];done) | (simp [Act.eval,Act.put,hcj];done)) HL3.out.2 ?_;intro a2 m2 c2 w2 h2 q2 f2))
     all_goals
      go_wp2_with fail;go_ret;refine Or.inr ⟨k,_,HX.out,rfl,rfl,?_⟩;have hst:=zja HG.out HB.out HB2.out h2.out.1 h2.out.2;exact hst.1
   ·as_aux_lemma=>
    have HN:Hid (∀x∈R.take (k+1),x.1≠id):=by
     intro x hx;obtain ⟨hlt',he⟩:=List.getElem?_eq_some_iff.1 HX.out;rw [List.take_succ_eq_append_getElem hlt',he] at hx;rcases List.mem_append.1 hx with h | h
     ·exact HNO.out x h
     ·rw [List.mem_singleton.1 h];exact hid
    have hib:(x0==id)=false:=beq_eq_false_iff_ne.2 hid;clear hid;go_wp2_with fail;go_roundg (gk-1);case measure=>omega
    case rel=>exact ⟨k+1,by go_num,by omega,HN.out,HB1.out _⟩
  ·have HN:Hid (∀x∈R,x.1≠id):=by
    have e:R.take k=R:=List.take_of_length_le (by rw [<-HM.out];omega);have:=HNO.out;rw [e] at this;exact this
   clear HNO;go_wp2_with fail;go_ret;exact Or.inl ⟨HN.out,rfl,HBW.out⟩
end Go.Proofs.YtebcjaenhiiflaaGreatDoor.G
