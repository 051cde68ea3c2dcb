import Derived.Test.YtebcjaenhiiflaaGreatDoorQHi
import Derived.Shelf.Strings.FieldsFuncAny
import Derived.Shelf.Strings.Prefix
import Derived.Shelf.Strings.BuilderK
import Derived.Shelf.Small.Wraps
import Derived.Shelf.SlIter.Nil
import Derived.Shelf.SortM.Plain
import Derived.Shelf.SortM.SortNone
import Derived.Ground.GgzProg
import Derived.Ground.SlgmProg
import Derived.Ground.NamesProg
import Derived.Test.YtebcjaenhiiflaaGreatDoorProg
set_option maxHeartbeats 1000000
namespace Go.Proofs
open Go.Proofs.Tryz
open Go.Shelf
def Tryz.lays229_ren:Go.Shelf.Ren:=⟨λ|229=>170|n=>n,λ|9=>9|40=>221|31=>70|152=>305|3=>3|0=>0|4=>4|21=>21|154=>307|n=>n,λ|n=>n⟩
theorem Tryz.lays229:Go.Proofs.Lays.n229 prog Tryz.lays229_ren:={
 mixed:=by kernel_rfl
 f229:=func170.trans c_
 t0:=underlying0
 a0:=isAgg0
 z0:=sizeOf0
 v0:=zeroValue0
 t3:=underlying3
 a3:=isAgg3
 z3:=sizeOf3
 v3:=zeroValue3
 t4:=underlying4
 a4:=isAgg4
 z4:=sizeOf4
 v4:=zeroValue4
 t9:=underlying9
 a9:=isAgg9
 z9:=sizeOf9
 v9:=zeroValue9
 t21:=underlying21
 a21:=isAgg21
 z21:=sizeOf21
 v21:=zeroValue21
 t31:=underlying70
 a31:=isAgg70
 z31:=sizeOf70
 v31:=zeroValue70
 t40:=underlying221
 a40:=isAgg221
 z40:=sizeOf221
 v40:=zeroValue221
 t152:=underlying305
 a152:=isAgg305
 z152:=sizeOf305
 v152:=zeroValue305
 t154:=underlying307
 a154:=isAgg307
 z154:=sizeOf307
 v154:=zeroValue307}
def Tryz.lays102_ren:Go.Shelf.Ren:=⟨λ|102=>167|209=>276|207=>330|n=>n,λ|9=>9|4=>4|3=>3|n=>n,λ|n=>n⟩
theorem Tryz.lays102:Go.Proofs.Lays.n102 prog Tryz.lays102_ren:={
 mixed:=by kernel_rfl
 f102:=func167.trans c_
 f207:=func330.trans c_
 f209:=func276.trans c_
 t3:=underlying3
 a3:=isAgg3
 z3:=sizeOf3
 v3:=zeroValue3
 t4:=underlying4
 a4:=isAgg4
 z4:=sizeOf4
 v4:=zeroValue4
 t9:=underlying9
 a9:=isAgg9
 z9:=sizeOf9
 v9:=zeroValue9}
def Tryz.lays121_ren:Go.Shelf.Ren:=⟨λ|121=>173|214=>279|n=>n,λ|4=>4|9=>9|n=>n,λ|n=>n⟩
theorem Tryz.lays121:Go.Proofs.Lays.n121 prog Tryz.lays121_ren:={
 mixed:=by kernel_rfl
 f121:=func173.trans c_
 f214:=func279.trans c_
 t4:=underlying4
 a4:=isAgg4
 z4:=sizeOf4
 v4:=zeroValue4
 t9:=underlying9
 a9:=isAgg9
 z9:=sizeOf9
 v9:=zeroValue9}
def Tryz.keys271_ren:Go.Shelf.Ren:=⟨λ|7=>271|10=>329|n=>n,λ|23=>110|26=>9|3=>217|28=>119|0=>0|27=>118|33=>36|4=>4|n=>n,λ|n=>n⟩
theorem Tryz.keys271:Go.Proofs.SlLaysZ.n7 prog Tryz.keys271_ren:={
 mixed:=by kernel_rfl
 f7:=⟨Tryz.f271.name,by decide,func271.trans c_⟩
 f10:=⟨Tryz.f329.name,by decide,func329.trans c_⟩
 t0:=underlying0
 a0:=isAgg0
 z0:=sizeOf0
 v0:=zeroValue0
 t4:=underlying4
 a4:=isAgg4
 z4:=sizeOf4
 v4:=zeroValue4
 t23:=underlying110
 a23:=isAgg110
 z23:=sizeOf110
 v23:=zeroValue110
 t26:=underlying9
 a26:=isAgg9
 z26:=sizeOf9
 v26:=zeroValue9
 t27:=underlying118
 a27:=isAgg118
 z27:=sizeOf118
 v27:=zeroValue118
 t28:=underlying119
 a28:=isAgg119
 z28:=sizeOf119
 v28:=zeroValue119
 t33:=underlying36
 a33:=isAgg36
 z33:=sizeOf36
 v33:=zeroValue36}
def Tryz.sorted270_ren:Go.Shelf.Ren:=⟨λ|6=>270|8=>327|9=>328|11=>362|13=>110|12=>363|23=>213|24=>214|14=>373|15=>374|16=>375|17=>376|18=>377|19=>378|20=>379|21=>380|22=>381|25=>383|26=>369|27=>370|28=>384|29=>385|30=>386|31=>387|n=>n,λ|26=>9|28=>119|24=>70|0=>0|3=>3|37=>103|48=>135|50=>132|4=>4|40=>387|39=>386|45=>76|5=>5|9=>9|51=>404|55=>338|57=>413|58=>373|33=>36|n=>n,λ|n=>n⟩
theorem Tryz.sorted270:Go.Proofs.SlLaysZ.n6 prog Tryz.sorted270_ren:={
 mixed:=by kernel_rfl
 f6:=⟨Tryz.f270.name,by decide,func270.trans c_⟩
 f8:=⟨Tryz.f327.name,by decide,func327.trans c_⟩
 f11:=⟨Tryz.f362.name,by decide,func362.trans c_⟩
 t0:=underlying0
 a0:=isAgg0
 z0:=sizeOf0
 v0:=zeroValue0
 t24:=underlying70
 a24:=isAgg70
 z24:=sizeOf70
 v24:=zeroValue70
 t26:=underlying9
 a26:=isAgg9
 z26:=sizeOf9
 v26:=zeroValue9
 t28:=underlying119
 a28:=isAgg119
 z28:=sizeOf119
 v28:=zeroValue119
 i26:=by kernel_rfl}
def Tryz.sort328_ren:Go.Shelf.Ren:=⟨λ|6=>328|8=>110|9=>363|19=>213|20=>214|21=>373|22=>374|23=>375|24=>376|25=>377|26=>378|27=>379|28=>380|29=>381|36=>383|31=>369|32=>370|37=>384|38=>385|39=>386|41=>387|n=>n,λ|27=>70|29=>9|3=>3|32=>103|26=>70|0=>0|44=>135|46=>132|4=>4|36=>387|35=>386|41=>76|5=>5|9=>9|53=>404|57=>338|63=>413|64=>373|n=>n,λ|n=>n⟩
theorem Tryz.sort328:Go.Proofs.SlLaysM.n6 prog Tryz.sort328_ren:={
 mixed:=by kernel_rfl
 f6:=⟨Tryz.f328.name,by decide,func328.trans c_⟩
 f8:=func110.trans c_
 f9:=⟨Tryz.f363.name,by decide,func363.trans c_⟩
 f19:=func213.trans c_
 f20:=func214.trans c_
 f21:=⟨Tryz.f373.name,by decide,func373.trans c_⟩
 f22:=⟨Tryz.f374.name,by decide,func374.trans c_⟩
 f23:=⟨Tryz.f375.name,by decide,func375.trans c_⟩
 f24:=⟨Tryz.f376.name,by decide,func376.trans c_⟩
 f25:=⟨Tryz.f377.name,by decide,func377.trans c_⟩
 f26:=⟨Tryz.f378.name,by decide,func378.trans c_⟩
 f27:=⟨Tryz.f379.name,by decide,func379.trans c_⟩
 f28:=⟨Tryz.f380.name,by decide,func380.trans c_⟩
 f29:=⟨Tryz.f381.name,by decide,func381.trans c_⟩
 f31:=func369.trans c_
 f32:=func370.trans c_
 f36:=⟨Tryz.f383.name,by decide,func383.trans c_⟩
 f37:=⟨Tryz.f384.name,by decide,func384.trans c_⟩
 f38:=⟨Tryz.f385.name,by decide,func385.trans c_⟩
 f39:=⟨Tryz.f386.name,by decide,func386.trans c_⟩
 f41:=⟨Tryz.f387.name,by decide,func387.trans c_⟩
 t0:=underlying0
 a0:=isAgg0
 z0:=sizeOf0
 v0:=zeroValue0
 t3:=underlying3
 a3:=isAgg3
 z3:=sizeOf3
 v3:=zeroValue3
 t4:=underlying4
 a4:=isAgg4
 z4:=sizeOf4
 v4:=zeroValue4
 t5:=underlying5
 a5:=isAgg5
 z5:=sizeOf5
 v5:=zeroValue5
 t9:=underlying9
 a9:=isAgg9
 z9:=sizeOf9
 v9:=zeroValue9
 t26:=underlying70
 a26:=isAgg70
 z26:=sizeOf70
 v26:=zeroValue70
 t27:=underlying70
 a27:=isAgg70
 z27:=sizeOf70
 v27:=zeroValue70
 t29:=underlying9
 a29:=isAgg9
 z29:=sizeOf9
 v29:=zeroValue9
 t32:=underlying103
 a32:=isAgg103
 z32:=sizeOf103
 v32:=zeroValue103
 t35:=underlying386
 a35:=isAgg386
 z35:=sizeOf386
 v35:=zeroValue386
 t36:=underlying387
 a36:=isAgg387
 z36:=sizeOf387
 v36:=zeroValue387
 t41:=underlying76
 a41:=isAgg76
 z41:=sizeOf76
 v41:=zeroValue76
 t44:=underlying135
 a44:=isAgg135
 z44:=sizeOf135
 v44:=zeroValue135
 t46:=underlying132
 a46:=isAgg132
 z46:=sizeOf132
 v46:=zeroValue132
 t53:=underlying404
 a53:=isAgg404
 z53:=sizeOf404
 v53:=zeroValue404
 t57:=underlying338
 a57:=isAgg338
 z57:=sizeOf338
 v57:=zeroValue338
 t63:=underlying413
 a63:=isAgg413
 z63:=sizeOf413
 v63:=zeroValue413
 t64:=underlying373
 a64:=isAgg373
 z64:=sizeOf373
 v64:=zeroValue373}
def Tryz.lays167_ren:Go.Shelf.Ren:=⟨λ|167=>91|240=>168|276=>277|n=>n,λ|0=>0|3=>3|4=>4|5=>5|9=>9|20=>20|37=>88|70=>115|72=>117|75=>28|80=>35|127=>224|164=>155|n=>n,λ|n=>n⟩
theorem Tryz.lays167:Go.Proofs.Lays.n167 prog Tryz.lays167_ren:={
 mixed:=by kernel_rfl
 f167:=func91.trans c_
 f240:=func168.trans c_
 f276:=func277.trans c_
 t0:=underlying0
 a0:=isAgg0
 z0:=sizeOf0
 v0:=zeroValue0
 t4:=underlying4
 a4:=isAgg4
 z4:=sizeOf4
 v4:=zeroValue4
 t5:=underlying5
 a5:=isAgg5
 z5:=sizeOf5
 v5:=zeroValue5
 t9:=underlying9
 a9:=isAgg9
 z9:=sizeOf9
 v9:=zeroValue9
 t20:=underlying20
 a20:=isAgg20
 z20:=sizeOf20
 v20:=zeroValue20
 t37:=underlying88
 a37:=isAgg88
 z37:=sizeOf88
 v37:=zeroValue88
 t70:=underlying115
 a70:=isAgg115
 z70:=sizeOf115
 v70:=zeroValue115
 t72:=underlying117
 a72:=isAgg117
 z72:=sizeOf117
 v72:=zeroValue117
 t75:=underlying28
 a75:=isAgg28
 z75:=sizeOf28
 v75:=zeroValue28
 t164:=underlying155
 a164:=isAgg155
 z164:=sizeOf155
 v164:=zeroValue155}
end Go.Proofs
namespace Go.Proofs
open Go.Proofs.Tryz
open Go.RowKit Go.Maps Go.Sort Go.Shelf
theorem Tryz.sorts270 (m:Nat):AnyZ.SortsIn prog Tryz.sorted270_ren Fence.wide m:=
 ⟨λ blk off cap ss W hH UY BS=>callsIn_wide.2 (AnyM.slices_Sort_string Tryz.sort328 blk off cap ss W hH UY BS),
  λ p cap W=>callsIn_wide.2 (AnyM.slices_Sort_string_none Tryz.sort328 p cap W)⟩
theorem Tryz.maps_Keys_271 (mb:Option Nat)(W:World):CallsIn Fence.wide 5 prog 271 #[.map mb] W λ e w'=>e= .returned (.func (.func 329) #[] #[.pointer (some ⟨W.heap.size,0,none⟩)])/\w'=W.alloc (.cells #[.map mb] 110):=
 AnyZ.keys_in Tryz.keys271 Fence.wide 5 trivial rfl mb W
theorem Tryz.slices_Sorted_keys_270_271 {H:Type}(b nn:Nat)(D0:DataW H)(R:Value->Option (DataW H × List MemPlace))(w:World)(o8:w.ownsMap prog 9 R b nn D0)(GM:Maps.size D0<=maxLen)(DC:Maps.size D0*16<=140737488355328):
 CallsIn Fence.wide 5 prog 270 #[.func (.func 329) #[] #[.pointer (some ⟨w.heap.size,0,none⟩)]] (w.alloc (.cells #[.map (some b)] 110)) λ e w'=>∃(v:Value) (ss:List (List UInt8)),e= .returned v/\ss.Perm (strKeys D0)/\
  w'.ownsRow (w.alloc (.cells #[.map (some b)] 110)).heap.size 9 1 v ss.length ((ss.mergeSort (λ x y=>decide (x<=y))).map encStr)/\(v= .slice none 0 0↔ss=[])/\Below (w.alloc (.cells #[.map (some b)] 110)).heap.size (w.alloc (.cells #[.map (some b)] 110)) w':=by
 have BH:=o8.lt;have IP:SeqGives Fence.wide 2 prog 329 #[.pointer (some ⟨w.heap.size,0,none⟩)] encStr (λ ss=>ss.Perm (strKeys D0)) (Maps.size D0) (w.alloc (.cells #[.map (some b)] 110)):=
  AnyZ.keys_gives (ρ:=Tryz.keys271_ren) {Tryz.keys271 with} Fence.wide _ trivial rfl (by omega) w.heap.size b nn D0 _ (by simp) (by simp) (by
   obtain⟨es,clock,hb,Ft,hs,hD⟩:=o8;exact⟨es,clock,(Below.heap_alloc _ _ b BH).trans hb,Ft,hs,hD⟩)
 exact AnyZ.sorted_in Tryz.sorted270 Fence.wide 5 trivial trivial trivial trivial rfl (by omega) (Tryz.sorts270 _) (enters_of func328 (by kernel_rfl) rfl) 329 #[.pointer (some ⟨w.heap.size,0,none⟩)] trivial (enters_of func329 (by kernel_rfl) rfl) _ _ GM DC _ IP
end Go.Proofs
