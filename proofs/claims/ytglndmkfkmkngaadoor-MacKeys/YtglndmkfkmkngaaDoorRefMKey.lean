/- What the document's key for one purpose answers. -/
import Derived.Test.YtglndmkfkmkngaaDoorRefHmac
import Derived.Test.YtglndmkfkmkngaaDoorMacCheck
namespace Go.Proofs.YtglndmkfkmkngaaDoor
open Go.RowKit
set_option linter.unusedVariables false

set_option maxRecDepth 100000 in
set_option maxHeartbeats 1000000 in
theorem refmkey_any (a0 : Option Addr) (n0 c0 : Nat) (k : List Int) (s : ByteArray) (w : World) (hk : Bts w a0 n0 c0 k) (hbk : n0 ≤ 1099511627776) (hbs : s.size ≤ 549755813888) :
    Calls Tryd.prog 19 #[.slice a0 n0 c0, .string s] w fun e w' => ∃ v, e = .returned v ∧ w'.ownsRow w.heap.size 5 1 v 32 (bv (macL k (strL s))) ∧ Below w.heap.size w w' := by
  have hcv := Lib.run_convert_string_bytes (P := Tryd.prog) w 9 22 5 s Tryd.underlying9 Tryd.underlying22 Tryd.underlying5
  have hb0 := bytes_low w 5 s
  have ht0 := bytes_bts w s (by unfold maxLen; omega)
  generalize Lib.bytesWorld w 5 s = w0 at hcv hb0 ht0
  generalize grownCap w s.size 0 5 = cp at hcv ht0
  have hk0 := hk.below hb0
  clear hk
  go_enter Tryd.func19, Tryd.ntmps19
  go_wp2_with fail
  refine (refmac_any a0 _ n0 s.size c0 cp k (strL s) _ hk0 ht0 hbk hbs).mono ?_
  rintro e w1 ⟨rfl, hb1⟩
  have hl := macL_len k (strL s)
  have hby := macL_byt k (strL s)
  generalize hm : macL k (strL s) = m at hl hby ⊢
  have HM : Bx (macL k (strL s) = m) := ⟨hm⟩
  clear hm
  generalize hDD : (bv m).toArray = D
  obtain ⟨hdv, hth, hinf, hone⟩ := dig_var w1 m hl D hDD.symm
  have HTH : Bx ((w1.alloc (.cells #[.int .u8 0, .int .u8 0, .int .u8 0, .int .u8 0, .int .u8 0, .int .u8 0, .int .u8 0, .int .u8 0, .int .u8 0, .int .u8 0, .int .u8 0, .int .u8 0, .int .u8 0, .int .u8 0, .int .u8 0, .int .u8 0, .int .u8 0, .int .u8 0, .int .u8 0, .int .u8 0, .int .u8 0, .int .u8 0, .int .u8 0, .int .u8 0, .int .u8 0, .int .u8 0, .int .u8 0, .int .u8 0, .int .u8 0, .int .u8 0, .int .u8 0, .int .u8 0] 26)).there w1.heap.size 0 D.size) := ⟨hth⟩
  have HDV : Bx (DV w1 ((w1.alloc (.cells #[.int .u8 0, .int .u8 0, .int .u8 0, .int .u8 0, .int .u8 0, .int .u8 0, .int .u8 0, .int .u8 0, .int .u8 0, .int .u8 0, .int .u8 0, .int .u8 0, .int .u8 0, .int .u8 0, .int .u8 0, .int .u8 0, .int .u8 0, .int .u8 0, .int .u8 0, .int .u8 0, .int .u8 0, .int .u8 0, .int .u8 0, .int .u8 0, .int .u8 0, .int .u8 0, .int .u8 0, .int .u8 0, .int .u8 0, .int .u8 0, .int .u8 0, .int .u8 0] 26)).setCells w1.heap.size 0 D.toList) m) := ⟨hdv⟩
  have HINF : Bx ((Tryd.prog.info? 26).map (·.size) = some D.size) := ⟨hinf⟩
  have HONE : Bx (D.all (·.oneCell') = true) := ⟨hone⟩
  have hda := dig_all w1.heap.size
  clear hdv hth hinf hone hDD hk0 ht0 hcv
  go_wp2_with (refine wpList_store_mid rfl 26 (.tmp 5) (.tmp 9) rfl w1.heap.size 0 D rfl rfl HTH.out HINF.out HONE.out ?_; have hdv := HDV.out; generalize (w1.alloc (.cells #[.int .u8 0, .int .u8 0, .int .u8 0, .int .u8 0, .int .u8 0, .int .u8 0, .int .u8 0, .int .u8 0, .int .u8 0, .int .u8 0, .int .u8 0, .int .u8 0, .int .u8 0, .int .u8 0, .int .u8 0, .int .u8 0, .int .u8 0, .int .u8 0, .int .u8 0, .int .u8 0, .int .u8 0, .int .u8 0, .int .u8 0, .int .u8 0, .int .u8 0, .int .u8 0, .int .u8 0, .int .u8 0, .int .u8 0, .int .u8 0, .int .u8 0, .int .u8 0] 26)).setCells w1.heap.size 0 D.toList = w2 at hdv ⊢; clear HDV HTH)
  have hb2 := bstep (bstep hb0 hb1) hdv.low
  refine (copy_any _ _ _ m _ (hdv.bts hby hl) (by decide)).mono ?_
  rintro e w3 ⟨v, rfl, hown, hb3⟩
  have hb4 := bstep hb2 hb3
  have hown2 := owns_base hown (base' := w.heap.size) hb2.size
  clear hown hb3 hb2 hdv hda hb0 hb1
  go_wp2
  go_ret
  exact ⟨_, rfl, by rw [HM.out]; exact hown2, hb4⟩
end Go.Proofs.YtglndmkfkmkngaaDoor
