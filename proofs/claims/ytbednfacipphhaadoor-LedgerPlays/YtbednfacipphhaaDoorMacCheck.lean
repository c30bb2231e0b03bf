/- What mac's Check and Key answer; and that the law's own question 'is anything summed at all' is answered yes. -/
import Derived.Test.YtbednfacipphhaaDoorAuba
import Derived.Test.YtbednfacipphhaaDoorConv
import Derived.Test.YtbednfacipphhaaDoorAuau
import Derived.Lib.ConvBytes
namespace Go.Proofs.YtbednfacipphhaaDoor
open Go.RowKit
set_option linter.unusedVariables false

set_option maxRecDepth 100000 in
set_option maxHeartbeats 1000000 in
theorem check_any (a0 a1 a2 : Option Addr) (n0 n1 n2 c0 c1 c2 : Nat) (k t s : List Int) (w : World) (hk : Bts w a0 n0 c0 k) (ht : Bts w a1 n1 c1 t) (hs : Bts w a2 n2 c2 s) (htab : Tab w) (hbk : n0 ≤ 1152921504606846976) (hbt : n1 ≤ 1152921504606846976) :
    Calls Tryd.prog 52 #[.slice a0 n0 c0, .slice a1 n1 c1, .slice a2 n2 c2] w fun e w' => e = .returned (.bool (decide (s = macL k t))) ∧ Below w.heap.size w w' := by
  go_enter Tryd.func52, Tryd.ntmps52
  go_wp2_with fail
  refine (mac_any a0 a1 n0 n1 c0 c1 k t _ hk ht htab hbk hbt).mono ?_
  rintro e w1 ⟨rfl, hb1⟩
  have hl := macL_len k t
  have hby := macL_byt k t
  generalize hm : macL k t = m at hl hby ⊢
  have HM : Bx (macL k t = m) := ⟨hm⟩
  clear hm
  generalize hDD : (bv m).toArray = D
  obtain ⟨hdv, hth, hinf, hone⟩ := dig_var w1 m hl D hDD.symm
  have HTH : Bx ((w1.alloc (.cells #[.int .u8 0, .int .u8 0, .int .u8 0, .int .u8 0, .int .u8 0, .int .u8 0, .int .u8 0, .int .u8 0, .int .u8 0, .int .u8 0, .int .u8 0, .int .u8 0, .int .u8 0, .int .u8 0, .int .u8 0, .int .u8 0, .int .u8 0, .int .u8 0, .int .u8 0, .int .u8 0, .int .u8 0, .int .u8 0, .int .u8 0, .int .u8 0, .int .u8 0, .int .u8 0, .int .u8 0, .int .u8 0, .int .u8 0, .int .u8 0, .int .u8 0, .int .u8 0] 30)).there w1.heap.size 0 D.size) := ⟨hth⟩
  have HDV : Bx (DV w1 ((w1.alloc (.cells #[.int .u8 0, .int .u8 0, .int .u8 0, .int .u8 0, .int .u8 0, .int .u8 0, .int .u8 0, .int .u8 0, .int .u8 0, .int .u8 0, .int .u8 0, .int .u8 0, .int .u8 0, .int .u8 0, .int .u8 0, .int .u8 0, .int .u8 0, .int .u8 0, .int .u8 0, .int .u8 0, .int .u8 0, .int .u8 0, .int .u8 0, .int .u8 0, .int .u8 0, .int .u8 0, .int .u8 0, .int .u8 0, .int .u8 0, .int .u8 0, .int .u8 0, .int .u8 0] 30)).setCells w1.heap.size 0 D.toList) m) := ⟨hdv⟩
  have HINF : Bx ((Tryd.prog.info? 30).map (·.size) = some D.size) := ⟨hinf⟩
  have HONE : Bx (D.all (·.oneCell') = true) := ⟨hone⟩
  have hs1 := hs.below hb1
  have hda := dig_all w1.heap.size
  clear hdv hth hinf hone hDD hk ht hs
  go_wp2_with (refine wpList_store_mid rfl 30 (.tmp 7) (.tmp 10) rfl w1.heap.size 0 D rfl rfl HTH.out HINF.out HONE.out ?_; have hdv := HDV.out; generalize (w1.alloc (.cells #[.int .u8 0, .int .u8 0, .int .u8 0, .int .u8 0, .int .u8 0, .int .u8 0, .int .u8 0, .int .u8 0, .int .u8 0, .int .u8 0, .int .u8 0, .int .u8 0, .int .u8 0, .int .u8 0, .int .u8 0, .int .u8 0, .int .u8 0, .int .u8 0, .int .u8 0, .int .u8 0, .int .u8 0, .int .u8 0, .int .u8 0, .int .u8 0, .int .u8 0, .int .u8 0, .int .u8 0, .int .u8 0, .int .u8 0, .int .u8 0, .int .u8 0, .int .u8 0] 30)).setCells w1.heap.size 0 D.toList = w2 at hdv ⊢; clear HDV HTH)
  have hs2 := hs1.below hdv.low
  have hm2 := hdv.bts hby hl
  have hb2 := bstep hb1 hdv.low
  refine (msame_any _ _ _ _ _ _ s m _ hs2 hm2).mono ?_
  rintro e w' ⟨rfl, rfl⟩
  clear hs1 hs2 hm2 hdv hb1 hda
  generalize hr : decide (s = m) = r
  have HR : Bx (r = decide (s = macL k t)) := ⟨by rw [HM.out, hr]⟩
  clear hr
  go_wp2
  go_ret
  exact ⟨ret_bool HR.out, hb2⟩

end Go.Proofs.YtbednfacipphhaaDoor
