/- EntryTexts: which text any entry has, and which entry any bytes say, or why none; what is handed in stays, what is told is nobody else's. -/
import Derived.Test.YtlodbkjjkhpbaaaRows
import Derived.Test.YtlodbkjjkhpbaaaEnIn
import Derived.Test.YtlodbkjjkhpbaaaBtIn
import Derived.Test.YtlodbkjjkhpbaaaEnLaw
import Derived.Test.YtlodbkjjkhpbaaaEnDec2
import Derived.Test.YtlodbkjjkhpbaaaREnDec
import Derived.Test.YtlodbkjjkhpbaaaSame
import Derived.Test.YtlodbkjjkhpbaaaCut
import Derived.Test.YtlodbkjjkhpbaaaIvOwn
import Derived.WalkKit
import Derived.ProofKit
import Derived.OpenShut
import Derived.ShutString
import Derived.ChangeOld
import Derived.Below
namespace Go.Proofs.Ytlodbkjjkhpbaaa.entryTexts
open Go.ChangeShapes Go.WideShapes Go.ChangeAt Go.RowKit
open Go.ChangeMaps (open_string shut_string)
set_option linter.unusedVariables false

theorem own : ownKnob Try.prog.godebug = none := by kernel_rfl
theorem laidOut : laidOutB Try.prog = true := by kernel_rfl

theorem iv_of {w : World} {base n c : Nat} {a : Option Addr} {L : List Int} (h : w.ownsRow base 3 1 (.slice a n c) n (L.flatMap ivC)) : Ivs w a n c L := by
  obtain ⟨ai, ci, e, hIV⟩ := Ls.of_owns ivC_len h (by have := h.1; rw [iv_map, List.length_map] at this; omega)
  cases e
  exact hIV
theorem en_range {w : World} {g : Nat} {e : En} {a : Option Addr} {n c : Nat} (h : EnB w g e a n c) : w.rangeAt g 0 (enC e a n c) := by
  have := range_rowE h.row
  unfold enA at this
  exact this
theorem enC_info {e : En} {a : Option Addr} {n c : Nat} (h : EnD e) : (Try.prog.info? 28).map (·.size) = some (enC e a n c).length := by rw [enC_len h]; exact en_info
theorem encN_byt {e : En} (hd : EnD e) : Byt (encN e) := by
  rcases chkN_ways e with h | h
  · rw [encN_ok h]; exact enL_byt (chkN_can h) hd.1 hd.2
  · rw [encN_no (by rw [h]; decide)]; exact Byt.nil
/-- the four entries, and the texts -/
structure LQ (E D : En) (TX B : List Int) (g2 g5 g11 g13 : Nat) (a2 a5 a11 a13 aT aU aM aB : Option Addr) (n2 c2 n5 c5 n11 c11 n13 c13 nT cT nU cU nM cM nB cB : Nat) (W : World) : Prop where
  e : EnB W g2 E a2 n2 c2
  x : EnB W g5 E a5 n5 c5
  y : EnB W g11 D a11 n11 c11
  z : EnB W g13 D a13 n13 c13
  ie : Ivs W a2 n2 c2 E.o
  ix : Ivs W a5 n5 c5 E.o
  iy : Ivs W a11 n11 c11 D.o
  iz : Ivs W a13 n13 c13 D.o
  t : Bts W aT nT cT TX
  u : Bts W aU nU cU TX
  m : Bts W aM nM cM B
  b : Bts W aB nB cB B
theorem LQ.up {E D : En} {TX B : List Int} {g2 g5 g11 g13 : Nat} {a2 a5 a11 a13 aT aU aM aB : Option Addr} {n2 c2 n5 c5 n11 c11 n13 c13 nT cT nU cU nM cM nB cB : Nat} : Up (LQ E D TX B g2 g5 g11 g13 a2 a5 a11 a13 aT aU aM aB n2 c2 n5 c5 n11 c11 n13 c13 nT cT nU cU nM cM nB cB) := fun _ _ h hb =>
  ⟨h.e.below hb, h.x.below hb, h.y.below hb, h.z.below hb, h.ie.below hb, h.ix.below hb, h.iy.below hb, h.iz.below hb, h.t.below hb, h.u.below hb, h.m.below hb, h.b.below hb⟩

set_option maxRecDepth 100000 in
set_option maxHeartbeats 8000000 in
theorem walk (e : En) (ea0 : Option Addr) (el0 ec0 : Nat) (a1 : Option Addr) (len1 cap1 : Nat) (b : List Int) (w : World) (he : EnI w e ea0 el0 ec0) (hb : Bts w a1 len1 cap1 b) :
    Calls Try.prog 3 #[.agg (enA e ea0 el0 ec0), .slice a1 len1 cap1] w fun e w' => e = .returned (.bool true) ∧ Below w.heap.size w w' := by
  have HE := Bx.mk he
  have HBT := Bx.mk hb
  have hb0 : Below w.heap.size w (w.alloc (.cells (enA e ea0 el0 ec0) 28)) := (Below.refl _ _).alloc (Nat.le_refl _) _
  have hr0 := EnB.new (a := ea0) (n := el0) (c := ec0) w he.dig
  have HB0 := Bx.mk hb0
  have HR0 := Bx.mk hr0
  have HI0 := Bx.mk (he.iv.below hb0)
  have HD0 := Bx.mk he.dig
  have HBT0 := Bx.mk (hb.below hb0)
  obtain ⟨g2, HG2⟩ : ∃ g2, Bx (g2 = w.heap.size) := ⟨_, ⟨rfl⟩⟩
  rw [← HG2.out] at HR0
  have hzv := en0_run
  clear hb0 hr0 he hb
  go_enter Try.func3, Try.ntmps3
  go_upto_region 1 with fail
  rw [← HG2.out]
  generalize w.alloc (.cells (enA e ea0 el0 ec0) 28) = wa at HB0 HR0 HI0 HBT0 ⊢
  go_wp2_with (refine wpList_load_en rfl (.tmp 2) rfl rfl HR0.out ?_)
  refine (cut20_any e ea0 el0 ec0 _ HI0.out HD0.out).mono ?_
  rintro x w1 ⟨a2, n2, c2, rfl, ho1, hb1⟩
  have HR1 := Bx.mk (HR0.out.below hb1)
  have HI1 := Bx.mk (iv_of ho1)
  have HB1 := Bx.mk (bstep HB0.out hb1)
  have HBT1 := Bx.mk (HBT0.out.below hb1)
  have HGO : Bx (∀ p, a2 = some p → g2 < p.block) := ⟨fun p e => by subst e; have h1 := (ho1.lt p.block rfl).1; have h2 := HR0.out.lt; omega⟩
  clear ho1 hb1 HR0 HI0 HB0 HBT0
  go_wp2_with fail
  refine (cut_any a1 len1 cap1 300 b _ HBT1.out (by decide)).mono ?_
  rintro x w2 ⟨⟨lb, rfl, hbb⟩, hw2⟩
  subst hw2
  obtain ⟨B, HBE⟩ : ∃ B, Bx (b.take 300 = B) := ⟨_, ⟨rfl⟩⟩
  rw [HBE.out] at hbb
  have hlb : lb ≤ 300 := by have h1 := hbb.len_eq; rw [← HBE.out, List.length_take] at h1; omega
  have HD1 : Bx (EnD (cutE e)) := ⟨HD0.out⟩
  have HCC : Bx (cutE (cutE e) = cutE e) := ⟨by unfold cutE; simp only [List.take_take, Nat.min_self]⟩
  have HTH : Bx (w1.there g2 0 (enA (cutE e) a2 n2 c2).size) := ⟨(HR1.out.nv (N0 := 0) (Nat.zero_le _)).en_there HD1.out⟩
  have HR2 : Bx (EnB (w1.setCells g2 0 (enA (cutE e) a2 n2 c2).toList) g2 (cutE e) a2 n2 c2) := ⟨(HR1.out.nv (N0 := 0) (Nat.zero_le _)).en HD1.out⟩
  have HB2 : Bx (Below w.heap.size w (w1.setCells g2 0 (enA (cutE e) a2 n2 c2).toList)) := ⟨below_setCells HB1.out g2 (by rw [HG2.out]; exact Nat.le_refl _) _ _⟩
  have HI2 : Bx (Ivs (w1.setCells g2 0 (enA (cutE e) a2 n2 c2).toList) a2 n2 c2 (cutE e).o) := ⟨HI1.out.keep (fun p e _ => setCells_other (by have := HGO.out p e; omega) _ _) (by rw [setCells_size]; exact Nat.le_refl _)⟩
  have HBB : Bx (Bts w a1 lb cap1 B) := ⟨by
    have := HBT.out.cut lb (by have h1 := hbb.len_eq; have h2 := HBT.out.len_eq; rw [← HBE.out, List.length_take] at h1; omega)
    refine this.list ?_
    rw [← HBE.out]
    have h1 := hbb.len_eq
    rw [← HBE.out, List.length_take] at h1
    by_cases hc : 300 ≤ b.length
    · rw [show lb = 300 from by omega]
    · rw [List.take_of_length_le (by omega), List.take_of_length_le (by omega)]⟩
  clear hbb HR1 HI1 HB1 HBT1
  go_upto_region 2 with (refine wpList_store_mid rfl 28 (.tmp 2) (.tmp 17) rfl g2 0 (enA (cutE e) a2 n2 c2) rfl rfl HTH.out (enA_info HD1.out) enA_one ?_)
  generalize w1.setCells g2 0 (enA (cutE e) a2 n2 c2).toList = w2 at HTH HR2 HB2 HI2 ⊢
  generalize cutE e = E at HTH HR2 HI2 HD1 HCC ⊢
  replace HBB := Bx.mk (HBB.out.below HB2.out)
  clear HTH HE HBT HGO
  -- a copy of each
  go_wp2_with (refine wpList_load_en rfl (.tmp 2) rfl rfl HR2.out ?_)
  refine (cut20_any E a2 n2 c2 _ HI2.out HD1.out).mono ?_
  rintro x w3 ⟨a5, n5, c5, rfl, ho3, hb3⟩
  rw [HCC.out] at ho3 ⊢
  have HR3 := Bx.mk (HR2.out.below hb3)
  have HI3 := Bx.mk (HI2.out.below hb3)
  have HJ3 := Bx.mk (iv_of ho3)
  have HB3 := Bx.mk (bstep HB2.out hb3)
  replace HBB := Bx.mk (HBB.out.below hb3)
  clear ho3 hb3 HR2 HI2 HB2
  go_wp2_with fail
  refine (copy_any a1 lb cap1 B _ HBB.out (by omega)).mono ?_
  rintro x w4 ⟨v4, rfl, ho4, hb4⟩
  obtain ⟨aM, cM, rfl, hM⟩ := Bts.of_owns ho4 HBB.out.byt
  have hev := en_var w4 (e := E) (a := a5) (n := n5) (c := c5) HD1.out
  have HEX := Bx.mk hev.1
  have HET := Bx.mk hev.2.2
  have HR5 := Bx.mk ((HR3.out.below hb4).below hev.2.1)
  have HI5 := Bx.mk ((HI3.out.below hb4).below hev.2.1)
  have HJ5 := Bx.mk ((HJ3.out.below hb4).below hev.2.1)
  have HB5 := Bx.mk (bstep (bstep HB3.out hb4) hev.2.1)
  have HM := Bx.mk (hM.below hev.2.1)
  replace HBB := Bx.mk ((HBB.out.below hb4).below hev.2.1)
  obtain ⟨g5, HG5⟩ : ∃ g5, Bx (g5 = w4.heap.size) := ⟨_, ⟨rfl⟩⟩
  clear hev ho4 hb4 hM HR3 HI3 HJ3 HB3
  go_upto_region 3 with (refine wpList_store_mid rfl 28 (.tmp 5) (.tmp 21) rfl w4.heap.size 0 (enA E a5 n5 c5) rfl rfl HET.out (enA_info HD1.out) enA_one ?_)
  generalize (w4.alloc (.cells (enA en0 none 0 0) 28)).setCells w4.heap.size 0 (enA E a5 n5 c5).toList = w5 at HEX HET HR5 HI5 HJ5 HB5 HM HBB ⊢
  rw [← HG5.out] at HEX ⊢
  clear HET
  -- both are written
  go_wp2_with (refine wpList_load_en rfl (.tmp 5) rfl rfl HEX.out ?_)
  refine (encode20_any E a5 n5 c5 _ HJ5.out HD1.out).mono ?_
  rintro x w6 ⟨v6, rfl, ho6, hb6⟩
  obtain ⟨aT, cT, rfl, hT⟩ := Bts.of_owns ho6 (encN_byt HD1.out)
  have HEX6 := Bx.mk (HEX.out.below hb6)
  have HR6 := Bx.mk (HR5.out.below hb6)
  have HI6 := Bx.mk (HI5.out.below hb6)
  have HJ6 := Bx.mk (HJ5.out.below hb6)
  have HB6 := Bx.mk (bstep HB5.out hb6)
  have HM6 := Bx.mk (HM.out.below hb6)
  have HT6 := Bx.mk hT
  replace HBB := Bx.mk (HBB.out.below hb6)
  clear ho6 hb6 hT HEX HR5 HI5 HJ5 HB5 HM
  go_wp2_with (refine wpList_load_en rfl (.tmp 2) rfl rfl HR6.out ?_)
  refine (refencode20_any E a2 n2 c2 _ HI6.out HD1.out).mono ?_
  rintro x w7 ⟨v7, rfl, ho7, hb7⟩
  obtain ⟨aU, cU, rfl, hU⟩ := Bts.of_owns ho7 (encN_byt HD1.out)
  have HEX7 := Bx.mk (HEX6.out.below hb7)
  have HR7 := Bx.mk (HR6.out.below hb7)
  have HI7 := Bx.mk (HI6.out.below hb7)
  have HJ7 := Bx.mk (HJ6.out.below hb7)
  have HB7 := Bx.mk (bstep HB6.out hb7)
  have HM7 := Bx.mk (HM6.out.below hb7)
  have HT7 := Bx.mk (HT6.out.below hb7)
  have HU7 := Bx.mk hU
  replace HBB := Bx.mk (HBB.out.below hb7)
  clear ho7 hb7 hU HEX6 HR6 HI6 HJ6 HB6 HM6 HT6
  obtain ⟨TX, HTX⟩ : ∃ TX, Bx (encN E = TX) := ⟨_, ⟨rfl⟩⟩
  rw [HTX.out] at HT7 HU7 ⊢
  -- both are read
  go_wp2_with fail
  refine (decode20_any aM lb cM B _ HM7.out).mono ?_
  rintro x w8 ⟨a11, n11, c11, rfl, ho8, hb8⟩
  have HD8 : Bx (EnD (decN B).1) := ⟨decN_dig HBB.out.byt⟩
  have hev := en_var w8 (e := (decN B).1) (a := a11) (n := n11) (c := c11) HD8.out
  have HY9 := Bx.mk hev.1
  have HET := Bx.mk hev.2.2
  have HO9 := Bx.mk (owns_below ho8 hev.2.1)
  have HB9 := Bx.mk (bstep hb8 hev.2.1)
  have HBB9 := Bx.mk ((HBB.out.below hb8).below hev.2.1)
  obtain ⟨g11, HG11⟩ : ∃ g11, Bx (g11 = w8.heap.size) := ⟨_, ⟨rfl⟩⟩
  have HOL : Bx (∀ j, (Value.slice a11 n11 c11).ownBlock = some j → j < g11) := ⟨fun j hj => by rw [HG11.out]; exact (ho8.lt j hj).2⟩
  clear hev ho8 hb8
  go_upto_region 6 with (refine wpList_store_mid rfl 28 (.tmp 11) (.tmp 37) rfl w8.heap.size 0 (enA (decN B).1 a11 n11 c11) rfl rfl HET.out (enA_info HD8.out) enA_one ?_)
  generalize (w8.alloc (.cells (enA en0 none 0 0) 28)).setCells w8.heap.size 0 (enA (decN B).1 a11 n11 c11).toList = w9 at HY9 HET HO9 HB9 HBB9 ⊢
  rw [← HG11.out] at HY9 ⊢
  clear HET
  go_wp2_with fail
  refine (refdecode20_any a1 lb cap1 B _ HBB9.out (by omega)).mono ?_
  rintro x w10 ⟨a13, n13, c13, rfl, ho10, hb10⟩
  have hev := en_var w10 (e := (decN B).1) (a := a13) (n := n13) (c := c13) HD8.out
  have HZ := Bx.mk hev.1
  have HET := Bx.mk hev.2.2
  have HIZ := Bx.mk ((iv_of ho10).below hev.2.1)
  have HY := Bx.mk ((HY9.out.below hb10).below hev.2.1)
  have HO := Bx.mk (owns_below (owns_below HO9.out hb10) hev.2.1)
  have HBN := Bx.mk (bstep (bstep HB9.out hb10) hev.2.1)
  obtain ⟨g13, HG13⟩ : ∃ g13, Bx (g13 = w10.heap.size) := ⟨_, ⟨rfl⟩⟩
  clear hev ho10 hb10 HY9 HO9 HB9 HBB9
  go_upto_region 7 with (refine wpList_store_mid rfl 28 (.tmp 13) (.tmp 42) rfl w10.heap.size 0 (enA (decN B).1 a13 n13 c13) rfl rfl HET.out (enA_info HD8.out) enA_one ?_)
  generalize (w10.alloc (.cells (enA en0 none 0 0) 28)).setCells w10.heap.size 0 (enA (decN B).1 a13 n13 c13).toList = w6 at HZ HET HIZ HY HO HBN ⊢
  rw [← HG13.out] at HZ ⊢
  clear HET hzv
  obtain ⟨D, HDDE⟩ : ∃ D, Bx ((decN B).1 = D) := ⟨_, ⟨rfl⟩⟩
  obtain ⟨fc, HFC⟩ : ∃ fc, Bx ((decN B).2 = fc) := ⟨_, ⟨rfl⟩⟩
  obtain ⟨ck, HCK⟩ : ∃ ck, Bx (chkN E = ck) := ⟨_, ⟨rfl⟩⟩
  rw [HDDE.out] at HZ HIZ HY HO HD8 ⊢
  rw [HFC.out, HCK.out]
  have HDE := HD1
  have HDD := HD8
  have HEX := Bx.mk (HEX7.out.below HBN.out)
  have HR := Bx.mk (HR7.out.below HBN.out)
  have HQ0 : Bx (LQ E D TX B g2 g5 g11 g13 a2 a5 a11 a13 aT aU aM a1 n2 c2 n5 c5 n11 c11 n13 c13 TX.length cT TX.length cU lb cM lb cap1 w6) := ⟨⟨HR.out, HEX.out, HY.out, HZ.out, HI7.out.below HBN.out, HJ7.out.below HBN.out, iv_of HO.out, HIZ.out, HT7.out.below HBN.out, HU7.out.below HBN.out, HM7.out.below HBN.out, HBB.out.below HBN.out⟩⟩
  obtain ⟨Qq, HQE⟩ : ∃ Qq : World → Prop, Bx (Qq = fun W => LQ E D TX B g2 g5 g11 g13 a2 a5 a11 a13 aT aU aM a1 n2 c2 n5 c5 n11 c11 n13 c13 TX.length cT TX.length cU lb cM lb cap1 W ∧ W.ownsRow w7.heap.size 3 1 (.slice a11 n11 c11) n11 (D.o.flatMap ivC) ∧ Below w7.heap.size w7 W) := ⟨_, ⟨rfl⟩⟩
  have HQQ : Bx (∀ W, Qq W → LQ E D TX B g2 g5 g11 g13 a2 a5 a11 a13 aT aU aM a1 n2 c2 n5 c5 n11 c11 n13 c13 TX.length cT TX.length cU lb cM lb cap1 W) := ⟨fun W h => by rw [HQE.out] at h; exact h.1⟩
  have HQ2 : Bx (∀ W, Qq W → W.ownsRow w7.heap.size 3 1 (.slice a11 n11 c11) n11 (D.o.flatMap ivC) ∧ Below w7.heap.size w7 W) := ⟨fun W h => by rw [HQE.out] at h; exact h.2⟩
  have hk0 : HX Qq w w6 := ⟨bstep HB7.out HBN.out, by rw [HQE.out]; exact fun W W' h hb => ⟨LQ.up _ _ h.1 hb, owns_below h.2.1 hb, bstep h.2.2 hb⟩, by rw [HQE.out]; exact ⟨HQ0.out, HO.out, HBN.out⟩⟩
  have hk := hk0.step (W' := w6.drew) ⟨rfl, rfl, rfl, Nat.le_refl _, fun _ _ => rfl⟩
  clear hk0 HQE HQ0 HZ HIZ HY HO HBN HEX HR HTX HDDE HFC HCC
  go_upto_region 7 with fail
  refine wp_region_held_drew (S := fun W => HX Qq w W) (by kernel_rfl) hk (fun _ => ?_)
  generalize w6.drew = wk at hk ⊢
  refine wpAnyH_take (i := 0) (oi := { dst := some 44, op := Op.move (Operand.tmp 7), type := 29, pos := "law.go:25", after := #[], guard := none }) (v := ?vent71) rfl (by kernel_rfl) (by kernel_rfl) (by kernel_rfl) (fun _ _ _ h => h) (Or.inl ⟨by rfl, ?yent71⟩) hk ?rent71
  case yent71 => (intro w hSw; (try dsimp only at hSw); go_simp; first | done | with_reducible rfl)
  simp only [Act.put, List.setIfInBounds_toArray, List.set_cons_zero, List.set_cons_succ]
  refine wpAnyH_take (i := 1) (oi := { dst := some 45, op := Op.move (Operand.tmp 9), type := 29, pos := "law.go:25", after := #[], guard := none }) (v := ?vent72) rfl (by kernel_rfl) (by kernel_rfl) (by kernel_rfl) (fun _ _ _ h => h) (Or.inl ⟨by rfl, ?yent72⟩) hk ?rent72
  case yent72 => (intro w hSw; (try dsimp only at hSw); go_simp; first | done | with_reducible rfl)
  simp only [Act.put, List.setIfInBounds_toArray, List.set_cons_zero, List.set_cons_succ]
  refine wpAnyH_ready (rs := [2]) (by decide +kernel) (by simp) ?_
  refine AllReadyH.cons (o := { dst := some 46, op := Op.call { callee := Callee.value (Operand.func 12), args := #[Operand.tmp 44, Operand.tmp 45], argTypes := #[29, 29] }, type := 4, pos := "law.go:25", after := #[{ on := 0, ground := Ground.data }, { on := 1, ground := Ground.data }], guard := none }) rfl (fun K hK => ?_) AllReadyH.nil
  go_simp
  refine (same_yes aT aU TX.length TX.length cT cU TX _ (HQQ.out _ hk.q).t (HQQ.out _ hk.q).u).mono ?_
  rintro x w1 ⟨rfl, nq, rfl⟩
  replace hk := hk.step (below_drewN (Below.refl _ _) nq)
  generalize wk.drewN nq = wk1 at hk ⊢
  refine hK.out _ _ hk (fun _ => ?_)
  clear hK K
  try simp only [Act.put, List.setIfInBounds_toArray, List.set_cons_zero, List.set_cons_succ]
  refine wpAnyH_take (i := 3) (oi := { dst := some 47, op := Op.unOp UnOp.not 4 (Operand.tmp 46), type := 4, pos := "law.go:25", after := #[{ on := 2, ground := Ground.data }], guard := none }) (v := ?vent73) rfl (by kernel_rfl) (by kernel_rfl) (by kernel_rfl) (fun _ _ _ h => h) (Or.inl ⟨by rfl, ?yent73⟩) hk ?rent73
  case yent73 => (intro w hSw; (try dsimp only at hSw); go_simp; first | done | with_reducible rfl)
  simp only [Act.put, List.setIfInBounds_toArray, List.set_cons_zero, List.set_cons_succ]
  refine wpAnyH_take (i := 4) (oi := { dst := some 48, op := Op.move (Operand.tmp 47), type := 4, pos := "law.go:25", after := #[{ on := 3, ground := Ground.data }, { on := 2, ground := Ground.chain }], guard := none }) (v := ?vent74) rfl (by kernel_rfl) (by kernel_rfl) (by kernel_rfl) (fun _ _ _ h => h) (Or.inl ⟨by rfl, ?yent74⟩) hk ?rent74
  case yent74 => (intro w hSw; (try dsimp only at hSw); go_simp; first | done | with_reducible rfl)
  simp only [Act.put, List.setIfInBounds_toArray, List.set_cons_zero, List.set_cons_succ]
  refine wpAnyH_take (i := 5) (oi := { dst := some 49, op := Op.move (Operand.tmp 8), type := 33, pos := "law.go:25", after := #[{ on := 4, ground := Ground.guard }], guard := some (4, false) }) (v := ?vent75) rfl (by kernel_rfl) (by kernel_rfl) (by kernel_rfl) (fun _ _ _ h => h) (Or.inl ⟨by rfl, ?yent75⟩) hk ?rent75
  case yent75 => (intro w hSw; (try dsimp only at hSw); go_simp; first | done | with_reducible rfl)
  simp only [Act.put, List.setIfInBounds_toArray, List.set_cons_zero, List.set_cons_succ]
  refine wpAnyH_take (i := 6) (oi := { dst := some 50, op := Op.move (Operand.tmp 10), type := 3, pos := "law.go:25", after := #[{ on := 4, ground := Ground.guard }], guard := some (4, false) }) (v := ?vent76) rfl (by kernel_rfl) (by kernel_rfl) (by kernel_rfl) (fun _ _ _ h => h) (Or.inl ⟨by rfl, ?yent76⟩) hk ?rent76
  case yent76 => (intro w hSw; (try dsimp only at hSw); go_simp; first | done | with_reducible rfl)
  simp only [Act.put, List.setIfInBounds_toArray, List.set_cons_zero, List.set_cons_succ]
  refine wpAnyH_take (i := 7) (oi := { dst := some 51, op := Op.binOp BinOp.neq 3 (Operand.tmp 49) (Operand.tmp 50) 3, type := 4, pos := "law.go:25", after := #[{ on := 5, ground := Ground.data }, { on := 6, ground := Ground.data }, { on := 4, ground := Ground.guard }], guard := some (4, false) }) (v := ?vent77) rfl (by kernel_rfl) (by kernel_rfl) (by kernel_rfl) (fun _ _ _ h => h) (Or.inl ⟨by rfl, ?yent77⟩) hk ?rent77
  case yent77 => (intro w hSw; (try dsimp only at hSw); go_simp; first | done | with_reducible rfl)
  simp only [Act.put, List.setIfInBounds_toArray, List.set_cons_zero, List.set_cons_succ]
  refine wpAnyH_take (i := 8) (oi := { dst := some 52, op := Op.pick (Operand.tmp 48) (Operand.const (Value.bool true)) (Operand.tmp 51), type := 4, pos := "law.go:25", after := #[{ on := 4, ground := Ground.data }, { on := 7, ground := Ground.data }], guard := none }) (v := ?vent78) rfl (by kernel_rfl) (by kernel_rfl) (by kernel_rfl) (fun _ _ _ h => h) (Or.inl ⟨by rfl, ?yent78⟩) hk ?rent78
  case yent78 => (intro w hSw; (try dsimp only at hSw); go_simp; first | done | with_reducible rfl)
  simp only [Act.put, List.setIfInBounds_toArray, List.set_cons_zero, List.set_cons_succ]
  refine wpAnyH_take (i := 9) (oi := { dst := some 53, op := Op.move (Operand.tmp 52), type := 4, pos := "law.go:25", after := #[{ on := 8, ground := Ground.data }, { on := 4, ground := Ground.chain }], guard := none }) (v := ?vent79) rfl (by kernel_rfl) (by kernel_rfl) (by kernel_rfl) (fun _ _ _ h => h) (Or.inl ⟨by rfl, ?yent79⟩) hk ?rent79
  case yent79 => (intro w hSw; (try dsimp only at hSw); go_simp; first | done | with_reducible rfl)
  simp only [Act.put, List.setIfInBounds_toArray, List.set_cons_zero, List.set_cons_succ]
  refine wpAnyH_take (i := 10) (oi := { dst := some 54, op := Op.load 28 (Operand.tmp 11), type := 28, pos := "law.go:25", after := #[{ on := 9, ground := Ground.guard }], guard := some (9, false) }) (v := .agg (enC D a11 n11 c11).toArray) rfl (by kernel_rfl) (by kernel_rfl) (by kernel_rfl) (fun _ _ _ h => h) (yieldsIf_load_mid (by rfl) 28 (.tmp 11) rfl g11 0 rfl (enC D a11 n11 c11) _ (fun (W : World) (hW : HX Qq w W) => en_range (HQQ.out W hW.q).y) Try.underlying28 rfl (enC_info HDD.out)) hk ?_
  simp only [Act.put, List.setIfInBounds_toArray, List.set_cons_zero, List.set_cons_succ]
  refine wpAnyH_take (i := 11) (oi := { dst := some 55, op := Op.load 28 (Operand.tmp 13), type := 28, pos := "law.go:25", after := #[{ on := 9, ground := Ground.guard }], guard := some (9, false) }) (v := .agg (enC D a13 n13 c13).toArray) rfl (by kernel_rfl) (by kernel_rfl) (by kernel_rfl) (fun _ _ _ h => h) (yieldsIf_load_mid (by rfl) 28 (.tmp 13) rfl g13 0 rfl (enC D a13 n13 c13) _ (fun (W : World) (hW : HX Qq w W) => en_range (HQQ.out W hW.q).z) Try.underlying28 rfl (enC_info HDD.out)) hk ?_
  simp only [Act.put, List.setIfInBounds_toArray, List.set_cons_zero, List.set_cons_succ]
  refine wpAnyH_ready (rs := [12]) (by decide +kernel) (by simp) ?_
  refine AllReadyH.cons (o := { dst := some 56, op := Op.call { callee := Callee.value (Operand.func 13), args := #[Operand.tmp 54, Operand.tmp 55], argTypes := #[28, 28] }, type := 4, pos := "law.go:25", after := #[{ on := 10, ground := Ground.data }, { on := 11, ground := Ground.data }, { on := 9, ground := Ground.chain }, { on := 9, ground := Ground.guard }], guard := some (9, false) }) rfl (fun K hK => ?_) AllReadyH.nil
  go_simp
  refine (same20_yes D a11 a13 n11 c11 n13 c13 _ (HQQ.out _ hk.q).iy (HQQ.out _ hk.q).iz HDD.out).mono ?_
  rintro x w2 ⟨rfl, hb2⟩
  replace hk := hk.step hb2
  clear hb2
  refine hK.out _ _ hk (fun _ => ?_)
  clear hK K
  try simp only [Act.put, List.setIfInBounds_toArray, List.set_cons_zero, List.set_cons_succ]
  refine wpAnyH_take (i := 13) (oi := { dst := some 57, op := Op.unOp UnOp.not 4 (Operand.tmp 56), type := 4, pos := "law.go:25", after := #[{ on := 12, ground := Ground.data }, { on := 9, ground := Ground.guard }], guard := some (9, false) }) (v := ?vent710) rfl (by kernel_rfl) (by kernel_rfl) (by kernel_rfl) (fun _ _ _ h => h) (Or.inl ⟨by rfl, ?yent710⟩) hk ?rent710
  case yent710 => (intro w hSw; (try dsimp only at hSw); go_simp; first | done | with_reducible rfl)
  simp only [Act.put, List.setIfInBounds_toArray, List.set_cons_zero, List.set_cons_succ]
  refine wpAnyH_take (i := 14) (oi := { dst := some 58, op := Op.pick (Operand.tmp 53) (Operand.const (Value.bool true)) (Operand.tmp 57), type := 4, pos := "law.go:25", after := #[{ on := 9, ground := Ground.data }, { on := 13, ground := Ground.data }], guard := none }) (v := ?vent711) rfl (by kernel_rfl) (by kernel_rfl) (by kernel_rfl) (fun _ _ _ h => h) (Or.inl ⟨by rfl, ?yent711⟩) hk ?rent711
  case yent711 => (intro w hSw; (try dsimp only at hSw); go_simp; first | done | with_reducible rfl)
  simp only [Act.put, List.setIfInBounds_toArray, List.set_cons_zero, List.set_cons_succ]
  refine wpAnyH_take (i := 15) (oi := { dst := some 59, op := Op.move (Operand.tmp 58), type := 4, pos := "law.go:25", after := #[{ on := 14, ground := Ground.data }, { on := 12, ground := Ground.chain }], guard := none }) (v := ?vent712) rfl (by kernel_rfl) (by kernel_rfl) (by kernel_rfl) (fun _ _ _ h => h) (Or.inl ⟨by rfl, ?yent712⟩) hk ?rent712
  case yent712 => (intro w hSw; (try dsimp only at hSw); go_simp; first | done | with_reducible rfl)
  simp only [Act.put, List.setIfInBounds_toArray, List.set_cons_zero, List.set_cons_succ]
  refine wpAnyH_take (i := 16) (oi := { dst := some 60, op := Op.move (Operand.tmp 12), type := 33, pos := "law.go:25", after := #[{ on := 15, ground := Ground.guard }], guard := some (15, false) }) (v := ?vent713) rfl (by kernel_rfl) (by kernel_rfl) (by kernel_rfl) (fun _ _ _ h => h) (Or.inl ⟨by rfl, ?yent713⟩) hk ?rent713
  case yent713 => (intro w hSw; (try dsimp only at hSw); go_simp; first | done | with_reducible rfl)
  simp only [Act.put, List.setIfInBounds_toArray, List.set_cons_zero, List.set_cons_succ]
  refine wpAnyH_take (i := 17) (oi := { dst := some 61, op := Op.move (Operand.tmp 14), type := 3, pos := "law.go:25", after := #[{ on := 15, ground := Ground.guard }], guard := some (15, false) }) (v := ?vent714) rfl (by kernel_rfl) (by kernel_rfl) (by kernel_rfl) (fun _ _ _ h => h) (Or.inl ⟨by rfl, ?yent714⟩) hk ?rent714
  case yent714 => (intro w hSw; (try dsimp only at hSw); go_simp; first | done | with_reducible rfl)
  simp only [Act.put, List.setIfInBounds_toArray, List.set_cons_zero, List.set_cons_succ]
  refine wpAnyH_take (i := 18) (oi := { dst := some 62, op := Op.binOp BinOp.neq 3 (Operand.tmp 60) (Operand.tmp 61) 3, type := 4, pos := "law.go:25", after := #[{ on := 16, ground := Ground.data }, { on := 17, ground := Ground.data }, { on := 15, ground := Ground.guard }], guard := some (15, false) }) (v := ?vent715) rfl (by kernel_rfl) (by kernel_rfl) (by kernel_rfl) (fun _ _ _ h => h) (Or.inl ⟨by rfl, ?yent715⟩) hk ?rent715
  case yent715 => (intro w hSw; (try dsimp only at hSw); go_simp; first | done | with_reducible rfl)
  simp only [Act.put, List.setIfInBounds_toArray, List.set_cons_zero, List.set_cons_succ]
  refine wpAnyH_take (i := 19) (oi := { dst := some 63, op := Op.pick (Operand.tmp 59) (Operand.const (Value.bool true)) (Operand.tmp 62), type := 4, pos := "law.go:25", after := #[{ on := 15, ground := Ground.data }, { on := 18, ground := Ground.data }], guard := none }) (v := ?vent716) rfl (by kernel_rfl) (by kernel_rfl) (by kernel_rfl) (fun _ _ _ h => h) (Or.inl ⟨by rfl, ?yent716⟩) hk ?rent716
  case yent716 => (intro w hSw; (try dsimp only at hSw); go_simp; first | done | with_reducible rfl)
  simp only [Act.put, List.setIfInBounds_toArray, List.set_cons_zero, List.set_cons_succ]
  refine wpAnyH_take (i := 20) (oi := { dst := some 64, op := Op.move (Operand.tmp 63), type := 4, pos := "law.go:25", after := #[{ on := 19, ground := Ground.data }, { on := 15, ground := Ground.chain }], guard := none }) (v := ?vent717) rfl (by kernel_rfl) (by kernel_rfl) (by kernel_rfl) (fun _ _ _ h => h) (Or.inl ⟨by rfl, ?yent717⟩) hk ?rent717
  case yent717 => (intro w hSw; (try dsimp only at hSw); go_simp; first | done | with_reducible rfl)
  simp only [Act.put, List.setIfInBounds_toArray, List.set_cons_zero, List.set_cons_succ]
  refine wpAnyH_take (i := 21) (oi := { dst := some 65, op := Op.load 28 (Operand.tmp 5), type := 28, pos := "law.go:25", after := #[{ on := 20, ground := Ground.guard }], guard := some (20, false) }) (v := .agg (enC E a5 n5 c5).toArray) rfl (by kernel_rfl) (by kernel_rfl) (by kernel_rfl) (fun _ _ _ h => h) (yieldsIf_load_mid (by rfl) 28 (.tmp 5) rfl g5 0 rfl (enC E a5 n5 c5) _ (fun (W : World) (hW : HX Qq w W) => en_range (HQQ.out W hW.q).x) Try.underlying28 rfl (enC_info HDE.out)) hk ?_
  simp only [Act.put, List.setIfInBounds_toArray, List.set_cons_zero, List.set_cons_succ]
  refine wpAnyH_take (i := 23) (oi := { dst := some 67, op := Op.load 28 (Operand.tmp 2), type := 28, pos := "law.go:25", after := #[{ on := 20, ground := Ground.guard }], guard := some (20, false) }) (v := .agg (enC E a2 n2 c2).toArray) rfl (by kernel_rfl) (by kernel_rfl) (by kernel_rfl) (fun _ _ _ h => h) (yieldsIf_load_mid (by rfl) 28 (.tmp 2) rfl g2 0 rfl (enC E a2 n2 c2) _ (fun (W : World) (hW : HX Qq w W) => en_range (HQQ.out W hW.q).e) Try.underlying28 rfl (enC_info HDE.out)) hk ?_
  simp only [Act.put, List.setIfInBounds_toArray, List.set_cons_zero, List.set_cons_succ]
  refine wpAnyH_ready (rs := [22]) (by decide +kernel) (by simp) ?_
  refine AllReadyH.cons (o := { dst := some 66, op := Op.call { callee := Callee.value (Operand.func 14), args := #[Operand.tmp 65], argTypes := #[28] }, type := 33, pos := "law.go:25", after := #[{ on := 21, ground := Ground.data }, { on := 20, ground := Ground.chain }, { on := 20, ground := Ground.guard }], guard := some (20, false) }) rfl (fun K hK => ?_) AllReadyH.nil
  go_simp
  refine (check20_any E a5 n5 c5 _ (HQQ.out _ hk.q).ix HDE.out).mono ?_
  rintro x w3 ⟨rfl, hb3⟩
  replace hk := hk.step hb3
  clear hb3
  refine hK.out _ _ hk (fun _ => ?_)
  clear hK K
  try simp only [Act.put, List.setIfInBounds_toArray, List.set_cons_zero, List.set_cons_succ]
  refine wpAnyH_ready (rs := [24]) (by decide +kernel) (by simp) ?_
  refine AllReadyH.cons (o := { dst := some 68, op := Op.call { callee := Callee.value (Operand.func 15), args := #[Operand.tmp 67], argTypes := #[28] }, type := 3, pos := "law.go:25", after := #[{ on := 23, ground := Ground.data }, { on := 22, ground := Ground.chain }, { on := 20, ground := Ground.guard }], guard := some (20, false) }) rfl (fun K hK => ?_) AllReadyH.nil
  go_simp
  refine (refcheck20_any E a2 n2 c2 _ (HQQ.out _ hk.q).ie HDE.out).mono ?_
  rintro x w4 ⟨rfl, hb4⟩
  replace hk := hk.step hb4
  clear hb4
  refine hK.out _ _ hk (fun _ => ?_)
  clear hK K
  try simp only [Act.put, List.setIfInBounds_toArray, List.set_cons_zero, List.set_cons_succ]
  refine wpAnyH_take (i := 25) (oi := { dst := some 69, op := Op.binOp BinOp.neq 3 (Operand.tmp 66) (Operand.tmp 68) 3, type := 4, pos := "law.go:25", after := #[{ on := 22, ground := Ground.data }, { on := 24, ground := Ground.data }, { on := 20, ground := Ground.guard }], guard := some (20, false) }) (v := ?vent718) rfl (by kernel_rfl) (by kernel_rfl) (by kernel_rfl) (fun _ _ _ h => h) (Or.inl ⟨by rfl, ?yent718⟩) hk ?rent718
  case yent718 => (intro w hSw; (try dsimp only at hSw); go_simp; first | done | with_reducible rfl)
  simp only [Act.put, List.setIfInBounds_toArray, List.set_cons_zero, List.set_cons_succ]
  refine wpAnyH_take (i := 26) (oi := { dst := some 70, op := Op.pick (Operand.tmp 64) (Operand.const (Value.bool true)) (Operand.tmp 69), type := 4, pos := "law.go:25", after := #[{ on := 20, ground := Ground.data }, { on := 25, ground := Ground.data }], guard := none }) (v := ?vent719) rfl (by kernel_rfl) (by kernel_rfl) (by kernel_rfl) (fun _ _ _ h => h) (Or.inl ⟨by rfl, ?yent719⟩) hk ?rent719
  case yent719 => (intro w hSw; (try dsimp only at hSw); go_simp; first | done | with_reducible rfl)
  simp only [Act.put, List.setIfInBounds_toArray, List.set_cons_zero, List.set_cons_succ]
  refine wpAnyH_done (by decide +kernel) ?_ _
  have HL := Bx.mk (HQQ.out _ hk.q)
  have HO := Bx.mk (HQ2.out _ hk.q).1
  have HBN := Bx.mk (HQ2.out _ hk.q).2
  have HY := Bx.mk HL.out.y
  have HYL : Bx (D.o.length = n11) := ⟨by have := HO.out.1; rw [iv_map, List.length_map] at this; omega⟩
  have hmx := Nat.le_trans (iv_of HO.out).le_cap (iv_of HO.out).cap_le
  unfold maxLen at hmx
  clear hk HQQ HQ2 HL
  go_wp2_with fail
  go_loopw [15] (fun i wr => ∃ (m : Nat) (Y : List Int), m ≤ n11 ∧ i = .int .i64 m ∧ Y.length = n11 ∧ Bx (wr.ownsRow w7.heap.size 3 1 (.slice a11 n11 c11) n11 (Y.flatMap ivC)) ∧ Bx (EnB wr g11 D a11 n11 c11) ∧ Bx (Below w7.heap.size w7 wr)) (fun i _ => n11 - (intOf i).toNat)
  case atStart => exact ⟨0, D.o, Nat.zero_le _, rfl, HYL.out, HO, HY, HBN⟩
  case round =>
    clear HO HY HBN
    obtain ⟨m, Y, hm, rfl, hYl, HO, HY, HBN⟩ := hrel
    have y7 := HY.out.c67
    by_cases hlt : m < n11
    · have hmI : (m : Int) < (n11 : Int) := by omega
      obtain ⟨ga, ca, e1, hga, _⟩ := owns_form HO.out (by omega)
      have e2 : a11 = some ⟨ga, 0, none⟩ ∧ c11 = ca := by cases e1; exact ⟨rfl, rfl⟩
      obtain ⟨rfl, rfl⟩ := e2
      have x0 := own_iv HO.out hYl m hlt (x := Y.getD m 0) rfl
      have xf := HO.out.frozenAt m
      have HNG : Bx (ga ≠ g11) := ⟨by have := HOL.out ga rfl; omega⟩
      have HO2 := Bx.mk (own_put HO.out m (-1))
      have HY2 : Bx (EnB (wr.setCell ⟨ga, m, none⟩ (.int .i64 (-1))) g11 D (some ⟨ga, 0, none⟩) n11 c11) := ⟨HY.out.keep (heap_setCell_other wr ⟨ga, m, none⟩ g11 _ (fun e => HNG.out e.symm))⟩
      have HB2 : Bx (Below w7.heap.size w7 (wr.setCell ⟨ga, m, none⟩ (.int .i64 (-1)))) := ⟨HBN.out.setCell (p := ⟨ga, m, none⟩) hga _⟩
      generalize Y.getD m 0 = yv at x0
      clear e1 HO HY HBN
      go_wp2_with fail
      go_roundw
      case rel => exact ⟨m + 1, Y.set m (-1), by omega, by go_num, by rw [List.length_set]; exact hYl, HO2, HY2, HB2⟩
      case measure => simp [intOf]; omega
    · have hmI : ¬ (m : Int) < (n11 : Int) := by omega
      have hmd : decide (m < n11) = false := by simpa using hlt
      have HEX := Bx.mk (HEX7.out.below HBN.out)
      have HR := Bx.mk (HR7.out.below HBN.out)
      have HI := Bx.mk (HI7.out.below HBN.out)
      have HJ := Bx.mk (HJ7.out.below HBN.out)
      have HM := Bx.mk (HM7.out.below HBN.out)
      have HBq := Bx.mk (HBB.out.below HBN.out)
      have HBZ := Bx.mk (bstep HB7.out HBN.out)
      go_upto_region 13 with fail
      clear y7 HO HY HBN
      go_wp2_with (first | (refine wpList_load_en rfl (.tmp 5) rfl rfl HEX.out ?_) | (refine wpList_load_en rfl (.tmp 2) rfl rfl HR.out ?_))
      refine (same20_yes E a5 a2 n5 c5 n2 c2 _ HJ.out HI.out HDE.out).mono ?_
      rintro x wb1 ⟨rfl, hb1⟩
      have HM1 := Bx.mk (HM.out.below hb1)
      have HB1 := Bx.mk (HBq.out.below hb1)
      have HBZ1 := Bx.mk (bstep HBZ.out hb1)
      clear hb1 HEX HR HI HJ HM HBq HBZ
      go_wp2_with fail
      refine (same_yes aM a1 lb lb cM cap1 B _ HM1.out HB1.out).mono ?_
      rintro x wb2 ⟨rfl, nq, rfl⟩
      have HBZ2 := Bx.mk (below_drewN HBZ1.out nq)
      generalize wb1.drewN nq = wb3 at HBZ2 ⊢
      clear HM1 HB1 HBZ1
      go_wp2_with fail
      refine (lives20_any _).mono ?_
      rintro x wz ⟨rfl, hbz⟩
      have HBZ3 := Bx.mk (bstep HBZ2.out hbz)
      clear hbz HBZ2
      go_wp2_with fail
      go_ret
      exact ⟨rfl, HBZ3.out⟩

set_option maxRecDepth 100000 in
theorem lifted (os : Os) (started : os.Started) (H : Type) (enc : TypeId × Value → H) :
    ReturnsInHanded {} Try.checked os 3 .any (Rows.entryTextsSpec.pre6 enc Try.prog Try.f3 Rows.entryTextsRow.domain false) (Rows.entryTextsSpec.post enc Try.prog Try.f3 false true false false) := by
  refine returnsInHanded_of_change (C := Try.checked) own started (by kernel_rfl) Try.func3
    (ChangeSpec.witness6 (enc := enc) (C := Try.checked) false ⟨#[], #[.agg (enA en0 none 0 0), .slice none 0 0], []⟩ 8 (by kernel_rfl) (by kernel_rfl) (by kernel_rfl) (by kernel_rfl)) ?_
  intro W base args ds gs before hval0 hW hcnd _
  have hval : ∀ (j : Nat) t v, Try.f3.params[j]? = some t → args[j]? = some v → Value.okWide Try.prog W .any base t v := hval0
  have hW' := hW
  obtain ⟨p, q, hA0, hV, rfl, hfz, hnd⟩ := hW
  have hA : DataW.TrodAll enc Try.prog W 0 (fun _ => true) true Try.f3.params.toList args.toList ds p := hA0
  rw [Try.params3] at hA hval
  obtain ⟨v0, vs0, d0, ds0, p0, q0, hargs, rfl, rfl, h0, r0⟩ := trodAll_cons hA
  obtain ⟨v1, vs1, d1, ds1, p1, q1, rfl, rfl, rfl, h1, r1⟩ := trodAll_cons r0
  obtain ⟨rfl, rfl, rfl⟩ := trodAll_nil r1
  obtain rfl : args = #[v0, v1] := by cases args; simp_all
  obtain ⟨rfl, rfl⟩ := trodVars_none hV
  obtain ⟨a1, len1, cap1, rfl⟩ := okWide_slice Try.underlying29 (hval 1 29 v1 rfl rfl)
  have k0 := h0
  have lt0 : ∀ x ∈ p0, x.block < W.heap.size := by obtain ⟨m, hm⟩ := k0; exact DataW.trod_lt m _ _ _ hm
  have k1 := h1
  have lt1 : ∀ x ∈ p1, x.block < W.heap.size := by obtain ⟨m, hm⟩ := k1; exact DataW.trod_lt m _ _ _ hm
  obtain ⟨e, ea0, el0, ec0, rfl, he⟩ := open_ent (hval 0 28 v0 rfl rfl) h0
  obtain ⟨b, hb⟩ := open_byt h1
  clear hA0 hval0
  refine (walk e ea0 el0 ec0 a1 len1 cap1 b W he hb).mono fun e W' ⟨he, bel⟩ => ?_
  subst he
  exact ⟨_, rfl, _, _, _, [], _, [], hW', trodAll_mk1 (shut_bool Try.underlying4 _), (trodAll_cons_mk (Below.trod laidOut (by kernel_rfl) (of_decide_eq_true (by kernel_rfl)) k0 bel lt0) (trodAll_cons_mk (Below.trod laidOut (by kernel_rfl) (of_decide_eq_true (by kernel_rfl)) k1 bel lt1) trodAll_mk0)), rfl, bel.frame _, fun h => by cases h⟩

theorem over : Rows.entryTextsRow.holds Try.pinned (OpenSpec.ofChange Rows.entryTextsSpec) :=
  OpenClaim.holds_of_wide 3 Try.f3 rfl rfl rfl rfl rfl rfl rfl ⟨rfl, rfl, rfl, rfl, rfl⟩ rfl rfl rfl rfl rfl (by kernel_rfl) Try.func3 (by kernel_rfl)
    (of_decide_eq_true (by kernel_rfl)) (by unfold Func.isWrapper; first | (rw [if_pos (by decide +kernel)]; kernel_rfl) | (rw [if_neg (by decide +kernel)]; exact ⟨rfl, rfl⟩))
    (fun os started H enc _ => lifted os started H enc)

/-- the statement -/
theorem proved : Rows.EntryTextsSaid := over
end Go.Proofs.Ytlodbkjjkhpbaaa.entryTexts
namespace Go.Proofs.Ytlodbkjjkhpbaaa
theorem entryTexts_holds : Rows.EntryTextsSaid := entryTexts.proved
#print axioms entryTexts_holds
end Go.Proofs.Ytlodbkjjkhpbaaa
