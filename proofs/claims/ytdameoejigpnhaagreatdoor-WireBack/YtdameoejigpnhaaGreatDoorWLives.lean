/- That anything is read at all. -/
import Derived.Test.YtdameoejigpnhaaGreatDoorWWhole
namespace Go.Proofs.YtdameoejigpnhaaGreatDoor
open Go.RowKit
set_option linter.unusedVariables false

def liveL : List Int := [71, 69, 84, 32, 47, 97, 32, 72, 84, 84, 80, 47, 49, 46, 49, 13, 10, 13, 10]
set_option maxRecDepth 100000 in
theorem wx_ext {x y : WX} (h1 : x.m = y.m) (h2 : x.t = y.t) (h3 : x.k = y.k) (h4 : x.b = y.b) : x = y := by
  obtain ⟨a, b, c, d⟩ := x
  obtain ⟨e, f, g, h⟩ := y
  simp only at h1 h2 h3 h4
  subst h1; subst h2; subst h3; subst h4; rfl
set_option maxRecDepth 100000 in
theorem live_run13 : runQ wp0 ws0 liveL 0 = (⟨strOf [71, 69, 84], strOf [47, 97], ⟨#[]⟩, []⟩, 19, 0) :=
  Prod.ext (wx_ext (by decide +kernel) (by decide +kernel) (by decide +kernel) (by decide +kernel)) (Prod.ext (by decide +kernel) (by decide +kernel))
set_option maxRecDepth 100000 in
set_option maxHeartbeats 1000000 in
theorem wlives_any (w : World) (he : Env w.heap.size w) :
    Calls Tryz.prog 15 #[] w fun e w' => e = .returned (.bool true) ∧ Below w.heap.size w w' := by
  have hm : Bts (w.alloc (.cells (bv liveL).toArray 5 (19, 20))) (some ⟨w.heap.size, 0, none⟩) 19 19 liveL := bts_const w liveL (by intro c hc; simp only [liveL, List.mem_cons, List.not_mem_nil, or_false] at hc; omega) (19, 20) (by decide)
  have hcv : (convert 22 22 (.slice (some ⟨w.heap.size, 0, none⟩) 19 19)).run Tryz.prog (w.alloc (.cells (bv liveL).toArray 5)) = .ok (.slice (some ⟨w.heap.size, 0, none⟩) 19 19) (w.alloc (.cells (bv liveL).toArray 5 (19, 20))) := Lib.run_convert_bytes_const w _ _ _ 19 19 Tryz.underlying22 Tryz.underlying5
  have hb : Below w.heap.size w (w.alloc (.cells (bv liveL).toArray 5 (19, 20))) := (Below.refl _ _).alloc (Nat.le_refl _) _
  generalize w.alloc (.cells (bv liveL).toArray 5 (19, 20)) = w1 at hm hcv hb
  unfold bv liveL at hcv
  simp only [List.map_cons, List.map_nil] at hcv
  have HM := Bx.mk hm
  have HB1 := Bx.mk hb
  have HE : Bx (Env w1.heap.size w1) := ⟨(he.below hb).low hb.size⟩
  clear hm hb he
  go_enter Tryz.func15, Tryz.ntmps15
  go_wp2_with fail
  refine (wwhole_any _ _ _ _ _ HM.out HE.out).mono ?_
  rintro e w2 ⟨v, rfl, hbt, ho, hb2⟩
  rw [live_run13] at ho hbt ⊢
  obtain ⟨va, vc, rfl⟩ := own_sl ho
  have HB := Bx.mk (bstep HB1.out hb2)
  have HB3 : Bx (Below w.heap.size w (w2.alloc (.cells #[.string (strOf [71, 69, 84]), .string (strOf [47, 97]), .string ⟨#[]⟩, .slice va ([] : List Int).length vc] 26))) := ⟨HB.out.alloc HB.out.size _⟩
  have e9 : ((strOf [47, 97]).toList == [47, 97]) = true := by rw [lit_eq (l := [47, 97]) (byt_dec (by decide)) [47, 97] (byt_dec (by decide)) [47, 97] rfl]; rfl
  generalize strOf [71, 69, 84] = sm at *
  generalize strOf [47, 97] = st at *
  clear hcv HM ho hb2 hbt
  unfold reqV
  simp only
  go_wp2
  go_ret
  exact ⟨rfl, HB3.out⟩
end Go.Proofs.YtdameoejigpnhaaGreatDoor
