import Derived.Test.YtebcjaenhiiflaaGreatDoorQSBSPQ
set_option maxHeartbeats 1000000
set_option maxRecDepth 100000
namespace Go.Proofs.YtebcjaenhiiflaaGreatDoor.S
open Go.RowKit Go.WideMaps Go.Maps
def Alike (f:Nat) (w:World) (n cw:Nat) (L:List Nat):Prop:=
 ∀W',Below w.heap.size w W'->∀(x y:Nat) (s:Bool),x<n->y<n->(((L.getD x 0:Nat):Int)==((L.getD y 0:Nat):Int))=s->Calls Tryz.prog f #[.int .i64 (x:Int),.int .i64 (y:Int),.pointer (some ⟨cw,0,none⟩)] W' λ e w'=>e= .returned (.bool s)/\∃n,w'=W'.drewN n
theorem cell_second (w:World) (o:Obj) (v:Value) (t:TypeId):∀j u,[v][j]? =some u->((w.alloc o).alloc (.cells #[v] t)).cell? ((⟨w.heap.size+1,0,none⟩:Addr).add j)=some u:=by
 have:=cell_one_new (w.alloc o) v t;rw [World.size_alloc] at this;exact this
theorem grow_facts {w w1:World} {base g m cap k:Nat} {v':Value} {Gs:List (List Nat)} {r c:Nat->Nat} {o:Obj} {x:Nat} (h:POut w base (.slice (some ⟨g,0,none⟩) m cap) Gs r c) (hm:m=Gs.length) (hk:k<Gs.length)
 (hown:w1.ownsRow base 3 1 v' ((ints (Gs.getD k [])).length+1) ((ints (Gs.getD k [])).map (Value.int .i64)++[.int .i64 (x:Int)])) (hg:(w.alloc o).grownBy w1 (some (r k))):
 (∃ρ κ,v'= .slice (some ⟨ρ,0,none⟩) ((Gs.getD k []).length+1) κ)/\w1.cell? ⟨g,k,none⟩=some (.slice (some ⟨r k,0,none⟩) (Gs.getD k []).length (c k))/\w1.frozen? ⟨g,k,none⟩=false:=by
 subst hm;have ht1:w1.ownsRow base 48 1 (.slice (some ⟨g,0,none⟩) Gs.length cap) Gs.length (rvals Gs r c):=(h.own.alloc o).kept hg (Or.inr (λ e=>h.ne k hk e));refine ⟨?_,?_,ht1.frozenAt k⟩
 ·rcases hown.2 with ⟨_,h0⟩ | ⟨ρ,κ,cur,hv,_⟩
  ·omega
  ·exact ⟨ρ,κ,by rw [hv,ints_length]⟩
 ·rw [ht1.cellAt k (by omega),rvals_at _ _ _ _ hk]
theorem parts_any (f n cw:Nat) (L:List Nat) (w:World) (hf:f=73\/f=74\/f=124) (hal:Alike f w n cw L) (hgd:Good n L) (hn:n<=40):
 Calls Tryz.prog 72 #[.int .i64 (n:Int),.func (.func f) #[] #[.pointer (some ⟨cw,0,none⟩)]] w λ e w'=>∃t r c,e= .returned t/\POut w' w.heap.size t (grps L n) r c/\Below w.heap.size w w':=by
 rcases hf with rfl | rfl | rfl
 all_goals
  obtain ⟨i0,hi0,hz0,hz1,hz2⟩:=info_parts Tryz.info3;obtain ⟨j0,hj0,hy0,hy1,hy2⟩:=info_parts Tryz.info48;have HAL:Hid (Alike _ w n cw L):=hal;have HG:Hid (Good n L):=hgd;clear hal hgd;go_enter Tryz.func72,Tryz.ntmps72;go_wp2_with fail;go_loopw [5,6,7,8,9,11] (λ s5 _ _ _ _ s11 wq=>∃x:Nat,x<=n/\s11= .int .i64 x/\(∃r c,POut wq w.heap.size s5 (pgr L x) r c)/\Below w.heap.size w wq) (λ _ _ _ _ _ s11 _=>n-(intOf s11).toNat)
  case atStart=>exact ⟨0,Nat.zero_le _,rfl,⟨λ _=>0,λ _=>0,pout_start _ _ _ _⟩,Below.refl _ _⟩
  case round=>
   obtain ⟨x,hx,rfl,⟨r,c,hP⟩,hbx⟩:=hrel;by_cases hlt:x<n
   ·obtain ⟨a,cap,rfl,ha⟩:=hP.shape
    have hml:(pgr L x).length<=40:=by
     have:=List.length_filter_le (λ y=>L.getD y 0==y) (List.range x);rw [List.length_range] at this;rw [pgr_length];unfold lst;omega
    have HP:Hid (POut wr w.heap.size (.slice a (pgr L x).length cap) (pgr L x) r c):=hP;have HA:Hid (0<(pgr L x).length->∃g,a=some ⟨g,0,none⟩):=ha;have HM:Hid ((pgr L x).length=(lst L x).length):=pgr_length L x;have HBX:Hid (Below w.heap.size w wr):=hbx;generalize hm:(pgr L x).length=m at*;have HML:Hid ((pgr L x).length=m):=hm;clear hP ha hbx hm;rename World=>wo
    go_wp2_with fail;go_loopw [7,8,9,16] (λ s7 _ _ s16 wq=>∃i:Nat,i<=m/\s16= .int .i64 i/\s7= .int .i64 (-1)/\(∀j,j<i->(lst L x).getD j 0≠L.getD x 0)/\∃q,wq=wo.drewN q) (λ _ _ _ s16 _=>m-(intOf s16).toNat)
    case atStart=>exact ⟨0,Nat.zero_le _,rfl,rfl,λ j hj=>absurd hj (by omega),0,rfl⟩
    case round=>
     obtain ⟨i,him,rfl,rfl,hno,q,hq⟩:=hrel;have hPq:=pout_drewN HP.out q;have hBq:=below_drewN HBX.out q;rw [<-hq] at hPq hBq;have HQ:Hid (wr=wo.drewN q):=hq;clear hq;have HPQ:Hid (POut wr w.heap.size (.slice a m cap) (pgr L x) r c):=hPq;have HBQ:Hid (Below w.heap.size w wr):=hBq;have HNO:Hid (∀j,j<i->(lst L x).getD j 0≠L.getD x 0):=hno;clear hPq hBq hno;by_cases hil:i<m
     ·obtain ⟨g,hag⟩:=HA.out (by omega)
      subst hag;have hil':i<(pgr L x).length:=by rw [HML.out];exact hil
      have hil2:i<(lst L x).length:=by rw [<-pgr_length];exact hil'
      obtain ⟨hyx,hyy⟩:=lst_at hil2;have hGi:=pgr_at L x i hil2;have hhd:=grp_head' HG.out hx hyx hyy;have hps:=grp_pos hyx hyy;rw [<-hGi] at hhd hps;have c1:=HPQ.out.outcell HML.out.symm i hil';have c2:=HPQ.out.head i hil' hps;rw [hhd] at c2;have HGi:Hid ((pgr L x).getD i []=grp L x ((lst L x).getD i 0)):=hGi;have hLl:=HG.out.len;have HYL:Hid (L.getD ((lst L x).getD i 0) 0=(lst L x).getD i 0):=hyy;generalize hyd:(lst L x).getD i 0=y at*;have HYD:Hid ((lst L x).getD i 0=y):=hyd;clear hGi hhd hyy hyd hLl;generalize hgl:((pgr L x).getD i []).length=gl at*;have HGL:Hid (((pgr L x).getD i []).length=gl):=hgl;have hgp:(0:Int)<(gl:Int):=by omega
      clear hgl hps;go_wp2_with fail;by_cases he:y=L.getD x 0
      ·have hv:(((L.getD y 0:Nat):Int)==((L.getD x 0:Nat):Int))=true:=by rw [HYL.out,<-he];simp
       refine (HAL.out _ HBQ.out y x true (by omega) hlt hv).mono ?_;rintro e w' ⟨rfl,q',hq'⟩;have HPV:Hid (POut w' w.heap.size (.slice (some ⟨g,0,none⟩) m cap) (pgr L x) r c):=by rw [hq'];exact pout_drewN HPQ.out q'
       have HBV:Hid (Below w.heap.size w w'):=by rw [hq'];exact below_drewN HBQ.out q'
       have c1':w'.cell? ⟨g,i,none⟩=some (.slice (some ⟨r i,0,none⟩) gl (c i)):=by rw [hq'];exact c1
       have hoi:=HPV.out.each i hil';rw [HGL.out] at hoi;have hle:(ints ((pgr L x).getD i [])).length<=40:=by
        rw [ints_length,HGi.out,grp_length];have:=cnt_le (λ i=>L.getD i 0==y) x;omega
       have hws:=HBV.out.size;have HE:Hid (y=L.getD x 0):=he;clear hv hq' c1 c2 he;go_wp2_with (first
        | (at_builtin;refine wpList_append_own_at _ rfl _ _ 48 rfl w.heap.size 3 i0 (.int .i64 0) 1 8 Tryz.underlying48 hi0 hz0 hz1 hz2 rfl (by decide) (.slice (some ⟨r i,0,none⟩) gl (c i)) _ _ rfl (hoi.1.alloc _) ⟨w'.heap.size,0,none⟩ 1 1 [.int .i64 x] rfl rfl (cell_one_new _ _ _) (ints_oneCell .i64 [(x:Int)]) (by unfold maxLen;omega) (by omega) (by simp;omega) ?_;intro v' w1 hown' hgrow hnil hloc;obtain ⟨⟨ρ,κ,hv'⟩,c3,f3⟩:=grow_facts HPV.out HML.out.symm hil' hown' hgrow;rw [HGL.out] at hv' c3;rw [hv'])
        | fail)
       have ho2:=hoi.appended hown' (WalkArith.wf_i64 (by omega));have hio:w.heap.size<=r i:=(hoi.1.lt (r i) rfl).1;have hgo:w.heap.size<=g:=(HPV.out.own.lt g rfl).1;rw [hv'] at ho2 hloc;rw [<-HGL.out] at ho2;have hloc':ρ=r i\/ρ=w'.heap.size+1:=by simpa [Value.ownBlock] using hloc
       have ho3:w1.ownsInts w.heap.size 3 .i64 (.slice (some ⟨ρ,0,none⟩) (((pgr L x).getD i []).length+1) κ) (ints ((pgr L x).getD i []++[x])):=by
        rw [ints_append];exact ho2
       have hgw:=HPV.out.grow HML.out.symm hil' x _ ho3 hgrow hloc';rw [HGL.out] at hgw;have hpf:=pgr_found hil2 (HYD.out.trans HE.out);rw [HYD.out,<-HGi.out] at hpf;rw [<-hpf] at hgw;have hbw:Below w.heap.size w (w1.setCell ⟨g,i,none⟩ (.slice (some ⟨ρ,0,none⟩) (gl+1) κ)):=(HBV.out.grown ((World.grownBy_alloc w' _ _).trans hgrow) hws (λ j hj=>(hoi.1.lt j hj).1)).setCell hgo _;go_roundw;case rel=>exact ⟨x+1,by omega,by go_num,⟨_,_,hgw⟩,hbw⟩
       case measure=>simp [intOf];omega
      ·have hv:(((L.getD y 0:Nat):Int)==((L.getD x 0:Nat):Int))=false:=by rw [HYL.out];exact beq_eq_false_iff_ne.2 (by omega)
       refine (HAL.out _ HBQ.out y x false (by omega) hlt hv).mono ?_;rintro e w' ⟨rfl,q',hq'⟩;have HNE:Hid (y≠L.getD x 0):=he;have HQ':Hid (w'=wr.drewN q'):=hq';clear hv hq' he;go_wp2_with fail;go_roundw;case rel=>exact ⟨i+1,by omega,by go_num,rfl,λ j hj=>if e:j=i then by rw [e,HYD.out];exact HNE.out else HNO.out j (by omega),q+q',by rw [HQ'.out,HQ.out,drewN_drewN]⟩
       case measure=>simp [intOf];omega
     ·have hie:i=m:=by omega
      subst hie;have howt:=HPQ.out.own;rw [HML.out] at howt;have hws:=HBQ.out.size;go_wp2_with (first
       | (at_builtin;refine wpList_append_own_at _ rfl _ _ 51 rfl w.heap.size 48 j0 (.slice none 0 0) 1 24 Tryz.underlying51 hj0 hy0 hy1 hy2 rfl (by decide) (.slice a i cap) _ _ rfl ((howt.alloc _).alloc _) ⟨wr.heap.size+1,0,none⟩ 1 1 [.slice (some ⟨wr.heap.size,0,none⟩) 1 1] rfl rfl (cell_second _ _ _ _) (one_slice _ _ _) (by unfold maxLen;omega) (by omega) (by simp;omega) ?_;intro v' w1 hown' hgrow hnil hloc)
       | fail)
      have hown2:w1.ownsRow w.heap.size 48 1 v' ((pgr L x).length+1) (rvals (pgr L x) r c++[.slice (some ⟨wr.heap.size,0,none⟩) 1 1]):=by
       rw [HML.out];exact hown'
      obtain ⟨r',c',hsn⟩:=HPQ.out.snoc hws x _ hown2 hgrow (by omega);rw [<-pgr_none HG.out hlt (by rw [<-HM.out];exact HNO.out)] at hsn;have hbw:Below w.heap.size w w1:=HBQ.out.grown (((World.grownBy_alloc wr _ _).trans (World.grownBy_alloc _ _ _)).trans hgrow) hws (λ j hj=>(HPQ.out.own.lt j hj).1);go_roundw;case rel=>exact ⟨x+1,by omega,by go_num,⟨r',c',hsn⟩,hbw⟩
      case measure=>simp [intOf];omega
   ·have hxe:x=n:=by omega
    subst hxe;have HP:Hid (∃r c,POut wr w.heap.size u5 (grps L x) r c):=by
     rw [<-pgr_all HG.out];exact ⟨r,c,hP⟩
    have HBX:Hid (Below w.heap.size w wr):=hbx;clear hP hbx;go_wp2_with fail;go_ret;obtain ⟨r',c',hP'⟩:=HP.out;exact ⟨_,r',c',rfl,hP',HBX.out⟩
section
variable {ι α:Type} {a b:ι->α} {T O:ι->Prop} {x y z e f o:ι} {u v w:α}
structure Forest (a b:ι->α) (T O:ι->Prop):Prop where
 tree:∀f,T f->¬cn a b (but T f) (a f) (b f)
 rest:∀o,O o->cn a b T (a o) (b o)
 apart:∀f,T f->¬O f
def un (T O:ι->Prop):ι->Prop:=λ e=>T e\/O e
def cov (a b:ι->α) (T:ι->Prop) (f o:ι):Prop:=(T f/\¬cn a b (but T f) (a o) (b o))\/(¬T f/\f=o)
theorem Forest.all (h:Forest a b T O) (k:cn a b (un T O) u v):cn a b T u v:=
 cn_lift k λ e he=>he.elim cn_edge (h.rest e)
theorem Forest.own (h:Forest a b T O) (ho:O o):cov a b T o o:=.inr ⟨λ ht=>h.apart o ht ho,rfl⟩
end
end Go.Proofs.YtebcjaenhiiflaaGreatDoor.S
namespace Go.Proofs.YtebcjaenhiiflaaGreatDoor.S
abbrev Edg:=Int × Int × Int
def Nodes (n:Nat) (R:List Edg):Prop:=∀e∈R,ea e<n/\eb e<n
def lbl (n:Nat) (t:List Edg):List Nat:=joins (List.range n) t
theorem Lk_ran (n u v:Nat):Lk n (List.range n) u v↔u=v:=by
 constructor
 ·rintro (h | ⟨h1,h2,h3⟩)
  ·exact h
  ·simpa [h1,h2] using h3
 ·exact .inl
theorem lb_good {n:Nat} {t:List Edg} (h:Nodes n t):Good n (lbl n t):=good_joins _ _ (good_range n) h
theorem lb_iff {n:Nat} {t:List Edg} (h:Nodes n t) {u v:Nat} (hu:u<n) (hv:v<n):(lbl n t).getD u 0=(lbl n t).getD v 0↔cnR t u v:=by
 rw [<-Lk.iff hu hv];unfold lbl;rw [Lk_joins _ _ (good_range n) h];constructor
 ·intro k
  refine Conn.lift k ?_;rintro x y (h | ⟨e,he,rfl,rfl⟩)
  ·rw [(Lk_ran n x y).1 h];exact Conn.refl y
  ·exact Conn.base ⟨e,he,rfl,rfl⟩
 ·intro k
  refine Conn.lift k ?_;rintro x y ⟨e,he,rfl,rfl⟩;exact Conn.base (.inr ⟨e,he,rfl,rfl⟩)
theorem lb_snoc (n:Nat) (t:List Edg) (d:Edg):lbl n (t++[d])=joinL (lbl n t) (ea d) (eb d):=by
 unfold lbl;generalize List.range n=L;induction t generalizing L with
 | nil=>rfl
 | cons c t ih=>exact ih _
def gstep (n:Nat) (s:List Edg × List Edg) (e:Edg):List Edg × List Edg:=
 if (lbl n s.1).getD (ea e) 0=(lbl n s.1).getD (eb e) 0 then (s.1,s.2++[e]) else (s.1++[e],s.2)
def grw (n:Nat) (R:List Edg):List Edg × List Edg:=R.foldl (gstep n) ([],[])
theorem grw_snoc (n:Nat) (R:List Edg) (e:Edg):grw n (R++[e])=gstep n (grw n R) e:=by simp [grw,List.foldl_append]
structure Gr (n:Nat) (R t o:List Edg):Prop where
 mem:∀e,e∈R↔e∈t\/e∈o
 forest:Forest ea eb (·∈t) (·∈o)
 tsub:t.Sublist R
 osub:o.Sublist R
 len:t.length+o.length=R.length
theorem more_snoc' (R:List Edg) (f:Edg):(·∈R++[f])=more (·∈R) f:=by
 funext e;apply propext;simp [more]
theorem gr_start (n:Nat):Gr n [] [] []:=⟨λ e=>by simp,⟨λ f hf=>by simp at hf,λ o ho=>by simp at ho,λ f hf=>by simp at hf⟩,List.Sublist.refl _,List.Sublist.refl _,rfl⟩
theorem gr_step {n:Nat} {R t o:List Edg} (h:Gr n R t o) {e:Edg} (he:e∉R) (hin:Nodes n R) (hen:ea e<n/\eb e<n):Gr n (R++[e]) (gstep n (t,o) e).1 (gstep n (t,o) e).2:=by
 have het:e∉t:=λ k=>he ((h.mem e).2 (.inl k))
 have heo:e∉o:=λ k=>he ((h.mem e).2 (.inr k))
 have htn:Nodes n t:=λ d hd=>hin d ((h.mem d).2 (.inl hd))
 unfold gstep;by_cases hc:(lbl n t).getD (ea e) 0=(lbl n t).getD (eb e) 0
 ·simp only [if_pos hc]
  have hcn:=(lb_iff htn hen.1 hen.2).1 hc;refine ⟨λ d=>by simp [h.mem d,or_assoc],⟨h.forest.tree,λ d hd=>?_,λ f hf ho=>?_⟩,h.tsub.trans (List.sublist_append_left _ _),h.osub.append (List.Sublist.refl _),by simp;have:=h.len;omega⟩
  ·rcases List.mem_append.1 hd with hd | hd
   ·exact h.forest.rest d hd
   ·rw [List.mem_singleton.1 hd];exact hcn
  ·rcases List.mem_append.1 ho with ho | ho
   ·exact h.forest.apart f hf ho
   ·rw [List.mem_singleton.1 ho] at hf;exact het hf
 ·simp only [if_neg hc]
  have hcn:¬cnR t (ea e) (eb e):=λ k=>hc ((lb_iff htn hen.1 hen.2).2 k)
  have hm:=more_snoc' t e;refine ⟨λ d=>?_,⟨λ f hf=>?_,λ d hd=>?_,λ f hf ho=>?_⟩,h.tsub.append (List.Sublist.refl _),h.osub.trans (List.sublist_append_left _ _),by simp;have:=h.len;omega⟩
  ·rw [List.mem_append,h.mem d,List.mem_append]
   constructor
   ·rintro ((k | k) | k)
    ·exact .inl (.inl k)
    ·exact .inr k
    ·exact .inl (.inr k)
   ·rintro ((k | k) | k)
    ·exact .inl (.inl k)
    ·exact .inr k
    ·exact .inl (.inr k)
  ·have hb:br ea eb (more (·∈t) e) f:=by
    rw [br_apart het hcn];rcases List.mem_append.1 hf with hf | hf
    ·exact .inl ⟨hf,h.forest.tree f hf⟩
    ·exact .inr (List.mem_singleton.1 hf)
   show ¬cn ea eb (but (·∈t++[e]) f) (ea f) (eb f);rw [hm];exact hb.2
  ·show cn ea eb (·∈t++[e]) (ea d) (eb d)
   rw [hm];exact cn_more_of (h.forest.rest d hd)
  ·rcases List.mem_append.1 hf with hf | hf
   ·exact h.forest.apart f hf ho
   ·rw [List.mem_singleton.1 hf] at ho;exact heo ho
theorem gr_fold {n:Nat}:∀(S Q:List Edg) (s:List Edg × List Edg),Gr n Q s.1 s.2->(Q++S).Nodup->Nodes n (Q++S)->Gr n (Q++S) (S.foldl (gstep n) s).1 (S.foldl (gstep n) s).2
 | [],Q,s,h,_,_=>by rw [List.append_nil];exact h
 | e::S,Q,s,h,hnd,hin=>by
   have hnd':=hnd;rw [List.nodup_append] at hnd';have h1:=gr_step h (e:=e) (λ k=>hnd'.2.2 e k e (by simp) rfl) (λ d hd=>hin d (List.mem_append_left _ hd)) (hin e (by simp));have e1:Q++e::S=(Q++[e])++S:=by simp
   rw [e1] at hnd hin ⊢;exact gr_fold S (Q++[e]) (gstep n s e) h1 hnd hin
theorem gr_all {n:Nat} (R:List Edg) (hnd:R.Nodup) (hin:Nodes n R):Gr n R (grw n R).1 (grw n R).2:=by
 have:=gr_fold R [] ([],[]) (gr_start n) (by simpa using hnd) (by simpa using hin)
 simpa [grw] using this
def bitsN (c:Nat->Bool):Nat->Nat
 | 0=>0
 | m+1=>bitsN c m+if c m then 2^m else 0
theorem bitsN_lt (c:Nat->Bool):∀m,bitsN c m<2^m
 | 0=>by simp [bitsN]
 | m+1=>by
   have:=bitsN_lt c m;simp only [bitsN,Nat.pow_succ];split <;> omega
theorem bitsN_congr {c d:Nat->Bool} {m:Nat} (h:∀i,i<m->c i=d i):bitsN c m=bitsN d m:=by
 induction m with
 | zero=>rfl
 | succ m ih=>simp only [bitsN];rw [ih (λ i hi=>h i (by omega)),h m (by omega)]
theorem or_pow {x i:Nat} (h:x<2^i):x ||| 2^i=x+2^i:=by
 have:=Nat.two_pow_add_eq_or_of_lt h 1;simp at this;rw [Nat.or_comm,<-this,Nat.add_comm]
end Go.Proofs.YtebcjaenhiiflaaGreatDoor.S
