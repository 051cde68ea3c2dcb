/- Proved: for every number n, every list of steps l and every number load, the law IndexPlays returns true and its arguments read afterwards as they read before; the package-level variables that are listed are tied to the program's text, internal/bytealg.MaxLen may hold any number. No condition: lists of more than 30 steps, and more than 12 nodes, are answered true at once by the law itself. -/
import Derived.Test.YtebcjaenhiiflaaGreatDoorQPe
import Derived.Test.YtebcjaenhiiflaaGreatDoorQVk
import Derived.Test.YtebcjaenhiiflaaGreatDoorQVq
import Derived.Test.YtebcjaenhiiflaaGreatDoorCards
import Derived.Test.YtebcjaenhiiflaaGreatDoorTie
import Derived.Deep.Slices
import Derived.ChangeSlices
set_option maxHeartbeats 400000
set_option maxRecDepth 100000
namespace Go.Proofs.YtebcjaenhiiflaaGreatDoor
open Go.ChangeShapes Go.WideShapes Go.ChangeAt Go.RowKit Go.Proofs.Tryz
def zf6 (w:World) (a:Option Addr) (m:Nat):Prop:=
 ∃(bl off:Nat) (ps:Nat->Int × Int × Int × Bool),(0<m->a=some ⟨bl,off,none⟩)/\I.zpr w bl off m ps/\(0<m->bl<w.heap.size)
theorem zia (w:World) (a:Option Addr):zf6 w a 0:=⟨0,0,λ _=>(0,0,0,false),λ h=>absurd h (by omega),⟨λ i hi=>absurd hi (by omega),λ i hi=>absurd hi (by omega),λ i hi=>absurd hi (by omega),λ i hi=>absurd hi (by omega)⟩,λ h=>absurd h (by omega)⟩
theorem zzy {w:World} {bl off:Nat} {spot:_} {v:Value} (h:w.cell? ((⟨bl,off,spot⟩:Addr).add 0)=some v):spot=none:=by
 cases spot with
 | none=>rfl
 | some s=>simp [World.cell?,Addr.add] at h;split at h <;> simp at h
theorem z4w {α:Type}:∀{l:List α},l.length=4->∃a b c d,l=[a,b,c,d]
 | [a,b,c,d],_=>⟨a,b,c,d,rfl⟩
theorem zr7 {w:World} {a:Addr} {m:Nat} (h:∀i,i<m->∃p:Int × Int × Int × Bool,w.cell? (a.add (i*4))=some (.int .i64 p.1)/\w.cell? (a.add (i*4+1))=some (.int .i64 p.2.1)/\w.cell? (a.add (i*4+2))=some (.int .i64 p.2.2.1)/\w.cell? (a.add (i*4+3))=some (.bool p.2.2.2)):zf6 w (some a) m:=by
 obtain ⟨ps,hps⟩:=Deep.choose_lt h;obtain ⟨bl,off,spot⟩:=a;rcases Nat.eq_zero_or_pos m with rfl | hm
 ·exact zia _ _
 ·obtain rfl:=zzy (by have:=(hps 0 hm).1;rw [Nat.zero_mul] at this;exact this)
  refine ⟨bl,off,ps,λ _=>rfl,⟨λ i hi=>?_,λ i hi=>?_,λ i hi=>?_,λ i hi=>?_⟩,λ _=>?_⟩
  ·have:=(hps i hi).1
   rw [G.zd9] at this;exact this
  ·have:=(hps i hi).2.1
   rw [G.zd9] at this;exact this
  ·have:=(hps i hi).2.2.1
   rw [G.zd9] at this;exact this
  ·have:=(hps i hi).2.2.2
   rw [G.zd9] at this;exact this
  ·have:=(hps 0 hm).1
   rw [G.zd9] at this;exact S.lt_of_cell this
section
variable {H:Type} {enc:TypeId × Value->H} {W:World} {base:Nat} {spare:Nat->Bool} {held:Bool}
theorem zsb {fuel:Nat} {a:Option Addr} {len cap:Nat} {x:DataW H × List MemPlace} (h:DataW.trod enc prog W base spare held fuel 37 [.slice a len cap]=some x):zf6 W a len:=by
 rcases Deep.open_slice underlying37 h with ⟨hcs,_⟩ | ⟨y,l,c,m,n,D,Pl,hcs,_,hl,_,hm,_,hx⟩
 ·injection hcs with hcs
  injection hcs with e1 e2 _
  rw [e2];exact zia _ _
 ·injection hcs with hcs
  injection hcs with e1 e2 e3
  subst e1 e2 e3;have hlm:len<=m:=by rw [hm];split <;> omega
  refine zr7 (λ i hi=>?_);obtain ⟨cs',h1,h2⟩:=hx i (by omega);have c4:prog.cellsOf 42=4:=by kernel_rfl
  have c3:prog.cellsOf 3=1:=by kernel_rfl
  have cb:prog.cellsOf 4=1:=by kernel_rfl
  rw [c4] at h1;obtain ⟨_,hlen,hcell⟩:=World.cells?_some h1;obtain ⟨xs,k,hk,hxy,_,hxl,hf⟩:=DataW.trod_struct underlying42 h2;obtain ⟨v0,v1,v2,v3,rfl⟩:=z4w hlen;obtain ⟨y0,y1,y2,y3,rfl⟩:=z4w (show xs.length=4 from hxl);have g0:=hf 0 _ rfl;have g1:=hf 1 _ rfl;have g2:=hf 2 _ rfl;have g3:=hf 3 _ rfl;simp [c3,cb] at g0 g1 g2 g3;obtain ⟨n0,t0,_,_⟩:=DataW.trod_int underlying3 g0;obtain ⟨n1,t1,_,_⟩:=DataW.trod_int underlying3 g1;obtain ⟨n2,t2,_,_⟩:=DataW.trod_int underlying3 g2;obtain ⟨b3,t3,_⟩:=DataW.trod_bool underlying4 g3;simp at t0 t1 t2 t3;have q0:=hcell 0 (by simp);have q1:=hcell 1 (by simp);have q2:=hcell 2 (by simp);have q3:=hcell 3 (by simp);rw [Deep.add_add] at q0 q1 q2 q3;exact ⟨(n0,n1,n2,b3),by rw [<-t0];simpa using q0,by rw [<-t1];simpa using q1,by rw [<-t2];simpa using q2,by rw [<-t3];simpa using q3⟩
end
theorem zx2 (n0:Int) (a:Option Addr) (m cap:Nat) (ld:Int) (w:World) (hm:30<m):
 Calls prog 4 #[.int .i64 n0,.slice a m cap,.int .i64 ld] w λ e w'=>e= .returned (.bool true)/\Below w.heap.size w w':=by
 have h1:(30:Int)<(m:Int):=by omega
 go_enter func4,ntmps4;go_wp2_with fail;go_ret;exact ⟨rfl,Below.refl _ _⟩
theorem zu4 (n0:Int) (a:Option Addr) (m cap:Nat) (ld:Int) (w:World) (hm:m<=30) (hn:12<n0):
 Calls prog 4 #[.int .i64 n0,.slice a m cap,.int .i64 ld] w λ e w'=>e= .returned (.bool true)/\Below w.heap.size w w':=by
 have h1:¬((30:Int)<(m:Int)):=by omega
 clear hm;go_enter func4,ntmps4;go_wp2_with fail;go_ret;exact ⟨rfl,Below.refl _ _⟩
theorem z0o (n0:Int) (a:Option Addr) (m cap:Nat) (ld:Int) (w:World) (hgl:G.Gl w) (hm:m<=30) (hn:n0<0):
 Calls prog 4 #[.int .i64 n0,.slice a m cap,.int .i64 ld] w λ e w'=>e= .returned (.bool true)/\Below w.heap.size w w':=by
 have h1:¬((30:Int)<(m:Int)):=by omega
 have h2:¬(12:Int)<n0:=by omega
 have HN:Hid _:=I.zpn n0 w (.inl hn);have HGL:=kd hgl;clear hm hgl;go_enter func4,ntmps4;go_wp2_with fail;refine Calls.mono HN.out ?_;rintro e w1 ⟨rfl,hw1⟩;subst w1;go_wp2_with fail;refine (G.zga _ 2 w HGL.out (by simp [G.zb8])).mono ?_;rintro e w2 ⟨rfl,hb⟩;have HB:=kd hb;clear hb;go_wp2_with fail;go_ret;exact ⟨rfl,HB.out⟩
theorem zvu (n0:Int) (a:Option Addr) (m cap:Nat) (ld:Int) (w:World) (hv:I.Vars w) (hgl:G.Gl w) (h:zf6 w a m):
 Calls prog 4 #[.int .i64 n0,.slice a m cap,.int .i64 ld] w λ e w'=>e= .returned (.bool true)/\Below w.heap.size w w':=by
 by_cases hb:30<m
 ·exact zx2 n0 a m cap ld w hb
 ·by_cases hn:n0<0
  ·exact z0o n0 a m cap ld w hgl (by omega) hn
  ·by_cases hn2:12<n0
   ·exact zu4 n0 a m cap ld w (by omega) hn2
   ·obtain ⟨n,rfl⟩:=Int.eq_ofNat_of_zero_le (show 0<=n0 by omega)
    obtain ⟨bl,off,ps,h1,h2,h3⟩:=h;exact I.z3t n ld a bl off m cap ps w (by omega) (by omega) hv hgl h1 h2 h3
abbrev zec:List (String × DataW Unit):=[("math/bits.deBruijn32tab",Rows.laid_math_bits_deBruijn32tab),("math/bits.deBruijn64tab",Rows.laid_math_bits_deBruijn64tab),("internal/strconv.uint64pow10",Rows.laid_internal_strconv_uint64pow10),("errors.errorType",Rows.laid_errors_errorType),("strconv.ErrRange",Rows.laid_strconv_ErrRange),("strconv.ErrSyntax",Rows.laid_strconv_ErrSyntax)]
abbrev zgt:List (String × DataW Unit):=[("math/bits.deBruijn32tab",Rows.laid_math_bits_deBruijn32tab),("math/bits.deBruijn64tab",Rows.laid_math_bits_deBruijn64tab),("internal/strconv.uint64pow10",Rows.laid_internal_strconv_uint64pow10),("strconv.ErrRange",Rows.laid_strconv_ErrRange),("strconv.ErrSyntax",Rows.laid_strconv_ErrSyntax)]
theorem zj0 {W:World} (h:laidMetH prog zec W):laidMet prog zgt W/\handlesMet prog [("errors.errorType",Rows.laid_errors_errorType)] W:=h
theorem zv6 {W:World} (h:laidMetH prog zec W) (hs:W.ShapedOpen prog):I.Vars W:=by
 obtain ⟨h1,_⟩:=zj0 h;exact ⟨yab2 hs,yab7 h1.tail.tail.tail.tail,yabl h1.tail.tail.tail,yaa1 h1.tail.tail,z9r hs⟩
noncomputable def zzo (os:Os):World:={World.holding prog os ⟨#[],#[],[]⟩ with heap:=(World.holding prog os ⟨#[],#[],[]⟩).heap.modify 0 λ
 | .cells _ t frozen=>.cells #[.iface 248 (.agg #[.pointer (some ⟨9,28,none⟩)])] t frozen
 | o=>o}
noncomputable def zk6 (os:Os):World:=(zzo os).layVars prog zgt
theorem z0d (os:Os):(zk6 os).os=os:=World.layVars_os _ _ _
theorem zwm (os:Os) (args:Array Value):laidMetH prog zec ((zk6 os).forCall (λ _ _=>0) ⟨#[],args,[]⟩).memory:=by
 refine laidMetH_of_parts ?_ (by kernel_rfl);have h:laidMet prog zgt (zk6 os):=laidMet_layVars (w0:=zzo os) (zgt.map (·.1)) [] (by rfl) (by kernel_rfl) (by kernel_rfl) (by exact LaidIn.none);exact h.of_heap (by simp [World.memory,World.forCall,Input.heap])
theorem zpt (os:Os) (started:os.Started) (H:Type) (enc:TypeId × Value->H):
 ReturnsInHanded {} Tryz.checked os 4 .any (λ w args=>(Rows.indexPlaysSpec.pre enc prog Tryz.f4 [] false w args/\laidMetH prog zec w)/\sizedMet enc prog Tryz.f4 (OpenSpec.ofChange Rows.indexPlaysSpec) false w args)
  (Rows.indexPlaysSpec.post enc prog Tryz.f4 false true false false):=by
 refine zou (C:=Tryz.checked) (X:=λ w _=>laidMetH prog zec w) (λ _ _ _ hh h=>h.of_heap hh) started own (by kernel_rfl) func4
  (ChangeSpec.witness_shaped (enc:=enc) (C:=Tryz.checked) (os:=os) (X:=λ w _=>laidMetH prog zec w) false (zk6 os) #[.int .i64 0,.slice none 0 0,.int .i64 0] 8 (z0d os)
    (World.shaped_of_ZipB (by kernel_rfl) (by kernel_rfl)) (by kernel_rfl) (by kernel_rfl) (by kernel_rfl) (zwm os _)) ?_
 intro W base args ds gs before hval0 hW hL hsh;have hval:∀(j:Nat) t v,Tryz.f4.params[j]? =some t->args[j]? =some v->Value.okWide prog W .any base t v:=hval0;have hW':=hW;obtain ⟨p,q,hA0,hV,rfl,hfz,hnd⟩:=hW;have hA:DataW.TrodAll enc prog W 0 (λ _=>true) true Tryz.f4.params.toList args.toList ds p:=hA0;rw [Tryz.params4] at hA hval;obtain ⟨v0,vs0,d0,ds0,p0,q0,hargs,rfl,rfl,h0,r0⟩:=trodAll_cons hA;obtain ⟨v1,vs1,d1,ds1,p1,q1,rfl,rfl,rfl,h1,r1⟩:=trodAll_cons r0;obtain ⟨v2,vs2,d2,ds2,p2,q2,rfl,rfl,rfl,h2,r2⟩:=trodAll_cons r1;obtain ⟨rfl,rfl,rfl⟩:=trodAll_nil r2;obtain rfl:args=#[v0,v1,v2]:=by cases args;simp_all
 obtain ⟨rfl,rfl⟩:=trodVars_none hV;obtain ⟨a0,rfl,rfl,rfl,w0⟩:=open_int underlying3 (hval 0 3 v0 rfl rfl) h0;obtain ⟨a1,len1,cap1,rfl⟩:=okWide_slice underlying37 (hval 1 37 v1 rfl rfl);obtain ⟨a2,rfl,rfl,rfl,w2⟩:=open_int underlying3 (hval 2 3 v2 rfl rfl) h2;have k1:=h1;have lt1:∀x∈p1,x.block<W.heap.size:=by obtain ⟨m,hm⟩:=k1;exact DataW.trod_lt m _ _ _ hm
 have w1:zf6 W a1 len1:=by
  obtain ⟨fuel,hf⟩:=h1;exact zsb (by simpa [Value.cells] using hf)
 have hv:=zv6 hL hsh;have hgl:=yabm (zj0 hL).2;clear hA0 hval0;refine (zvu a0 a1 len1 cap1 a2 W hv hgl w1).mono λ e W' ⟨he,bel⟩=>?_
 subst he;exact ⟨_,rfl,_,_,_,[],_,[],hW',trodAll_mk1 (shut_bool underlying4 _),(trodAll_cons_mk (shut_int underlying3 w0) (trodAll_cons_mk (Below.trod laidOut (by kernel_rfl) (of_decide_eq_true (by kernel_rfl)) k1 bel lt1) (trodAll_cons_mk (shut_int underlying3 w2) trodAll_mk0))),rfl,bel.frame _,λ h=>by cases h⟩
theorem zw6:Tryz.f4.isInstance prog Rows.indexPlaysRow.origin Rows.indexPlaysRow.targs:=of_decide_eq_true (by kernel_rfl)
theorem zv3:Tryz.f4.isWrapper prog Rows.indexPlaysRow.wrapper Rows.indexPlaysRow.mainSum:=by unfold Func.isWrapper;rw [if_neg (of_decide_eq_false (by kernel_rfl))];exact ⟨rfl,rfl⟩
theorem zjz:prog.funcNamed Rows.indexPlaysRow.func=some 4:=by kernel_rfl
theorem zx1:Rows.IndexPlaysSaid:=
 OpenClaim.holds_of_wide_leaving 4 Tryz.f4 rfl rfl rfl rfl rfl rfl rfl ⟨rfl,rfl,rfl,rfl,rfl⟩ rfl rfl rfl rfl rfl zjz func4 z1b zw6 zv3
  (λ os started H enc _=>zjx (zpt os started H enc))
theorem zw2:Rows.indexPlaysRow.wfByText (OpenSpec.ofChange Rows.indexPlaysSpec)=true:=by kernel_rfl
theorem zvr:prog.mainIs=some (true,("4ade8549f1c7e37e8ecca3c8762da108096c196075f0eddc8bb75ba31dd20d64":String).toList):=by kernel_rfl
theorem zs3:true=prog.looks []:=by kernel_rfl
theorem zut:true=Rows.indexPlaysRow.goesBy prog:=by kernel_rfl
theorem index_plays_holds:Rows.IndexPlaysCardSaid:=
 zxp .later [.data,.data,.data,.handle,.sentinel,.sentinel] true (true,"4ade8549f1c7e37e8ecca3c8762da108096c196075f0eddc8bb75ba31dd20d64") true
  zx1 zw2 indexPlays_row_tie rfl ⟨rfl,rfl⟩ zvr rfl
  (λ f fn hf hfn=>by
    obtain rfl:f=4:=Option.some.inj (zjz.symm.trans hf) |>.symm;obtain rfl:fn=Tryz.f4:=(Option.some.inj (func4.symm.trans hfn)).symm;exact ⟨zs3,λ j t ht=>by
     rw [Tryz.params4] at ht;have hm:t∈[3,37,3]:=by simpa using Array.mem_of_getElem? ht
     have hall:([3,37,3].all λ u=>!prog.wantsStandIn u)=true:=by kernel_rfl
     exact (show prog.wantsStandIn t=false by simpa using List.all_eq_true.1 hall t hm)⟩)
  zut
#print axioms index_plays_holds
end Go.Proofs.YtebcjaenhiiflaaGreatDoor
