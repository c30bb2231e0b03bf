/- That anything is read at all. From the row's list to what the walks ask. -/
import Derived.Test.YtdameoejigpnhabGreatDoorWrj
import Derived.Lay
import Derived.Deep.DeepHandedRow
namespace Go.Proofs.YtdameoejigpnhabGreatDoor
open Go.RowKit
set_option linter.unusedVariables false

def liveL : List Int := [71, 69, 84, 32, 47, 97, 32, 72, 84, 84, 80, 47, 49, 46, 49, 13, 10, 13, 10]
set_option maxRecDepth 100000 in
theorem wx_ext {x y : WX} (h1 : x.m = y.m) (h2 : x.t = y.t) (h3 : x.k = y.k) (h4 : x.b = y.b) : x = y := by
  obtain ⟨a, b, c, d⟩ := x
  obtain ⟨e, f, g, h⟩ := y
  simp only at h1 h2 h3 h4
  subst h1; subst h2; subst h3; subst h4; rfl
set_option maxRecDepth 100000 in
theorem live_run13 : runQ wp0 ws0 liveL 0 = (⟨strOf [71, 69, 84], strOf [47, 97], ⟨#[]⟩, []⟩, 19, 0) :=
  Prod.ext (wx_ext (by decide +kernel) (by decide +kernel) (by decide +kernel) (by decide +kernel)) (Prod.ext (by decide +kernel) (by decide +kernel))
set_option maxRecDepth 100000 in
set_option maxHeartbeats 1000000 in
theorem wlives_any (w : World) (he : Env w.heap.size w) :
    Calls Tryz.prog 14 #[] w fun e w' => e = .returned (.bool true) ∧ Below w.heap.size w w' := by
  have hm : Bts (w.alloc (.cells (bv liveL).toArray 5 (19, 20))) (some ⟨w.heap.size, 0, none⟩) 19 19 liveL := bts_const w liveL (by intro c hc; simp only [liveL, List.mem_cons, List.not_mem_nil, or_false] at hc; omega) (19, 20) (by decide)
  have hcv : (convert 22 22 (.slice (some ⟨w.heap.size, 0, none⟩) 19 19)).run Tryz.prog (w.alloc (.cells (bv liveL).toArray 5)) = .ok (.slice (some ⟨w.heap.size, 0, none⟩) 19 19) (w.alloc (.cells (bv liveL).toArray 5 (19, 20))) := Lib.run_convert_bytes_const w _ _ _ 19 19 Tryz.underlying22 Tryz.underlying5
  have hb : Below w.heap.size w (w.alloc (.cells (bv liveL).toArray 5 (19, 20))) := (Below.refl _ _).alloc (Nat.le_refl _) _
  generalize w.alloc (.cells (bv liveL).toArray 5 (19, 20)) = w1 at hm hcv hb
  unfold bv liveL at hcv
  simp only [List.map_cons, List.map_nil] at hcv
  have HM := Bx.mk hm
  have HB1 := Bx.mk hb
  have HE : Bx (Env w1.heap.size w1) := ⟨(he.below hb).low hb.size⟩
  clear hm hb he
  go_enter Tryz.func14, Tryz.ntmps14
  go_wp2_with fail
  refine (wwhole_any _ _ _ _ _ HM.out HE.out).mono ?_
  rintro e w2 ⟨v, rfl, hbt, ho, hb2⟩
  rw [live_run13] at ho hbt ⊢
  obtain ⟨va, vc, rfl⟩ := own_sl ho
  have HB := Bx.mk (bstep HB1.out hb2)
  have HB3 : Bx (Below w.heap.size w (w2.alloc (.cells #[.string (strOf [71, 69, 84]), .string (strOf [47, 97]), .string ⟨#[]⟩, .slice va ([] : List Int).length vc] 44))) := ⟨HB.out.alloc HB.out.size _⟩
  have e9 : ((strOf [47, 97]).toList == [47, 97]) = true := by rw [lit_eq (l := [47, 97]) (byt_dec (by decide)) [47, 97] (byt_dec (by decide)) [47, 97] rfl]; rfl
  generalize strOf [71, 69, 84] = sm at *
  generalize strOf [47, 97] = st at *
  clear hcv HM ho hb2 hbt
  unfold reqV
  simp only
  go_wp2
  go_ret
  exact ⟨rfl, HB3.out⟩
end Go.Proofs.YtdameoejigpnhabGreatDoor
namespace Go.Proofs.YtdameoejigpnhabGreatDoor
open Go.RowKit
set_option linter.unusedVariables false

set_option maxRecDepth 100000 in
theorem env_at {W : World} {l : List (String × DataW Unit)} (h : laidMet Tryz.prog l W) (hsh : W.ShapedOpen Tryz.prog) (i j k : Nat) (hi : l[i]? = some ("internal/strconv.uint64pow10", Rows.laid_internal_strconv_uint64pow10)) (hj : l[j]? = some ("strconv.ErrRange", Rows.laid_strconv_ErrRange)) (hk : l[k]? = some ("strconv.ErrSyntax", Rows.laid_strconv_ErrSyntax)) : Env W.heap.size W :=
  Env.new (tens_at h i hi) (errs_at h j k hj hk) (Tryz.laysM145.s1_3 W hsh)
set_option maxRecDepth 100000 in
theorem Env.up {w w' : World} (h : Env w.heap.size w) (hb : Below w.heap.size w w') : Env w'.heap.size w' := (h.below hb).low hb.size
set_option maxRecDepth 100000 in
/-- two readings that are one -/
theorem wh_body {T : WX × Nat × Int} {w w' : World} {v : Value} (hb : Byt T.1.b) (ho : w'.ownsRow w.heap.size 5 1 v T.1.b.length (bv T.1.b)) : ∃ a c, v = .slice a T.1.b.length c ∧ Bts w' a T.1.b.length c T.1.b := Bts.of_owns ho hb
set_option maxRecDepth 100000 in
/-- a start that fits: its shape is known, whatever its tables hold -/
theorem witness_row_zip {H : Type} {enc : TypeId × Value → H} {C : Checked} {os : Os} {f : FuncId} {fn : Func} {s : OpenSpec} {conds : List PathCond} {apart : Bool} {laid : List (String × DataW Unit)} (modest : Bool) (w0 : World) (args : Array Value) (hos : w0.os = os)
    (hsh : (w0.forCall (fun _ _ => 0) ⟨#[], args, []⟩).Shaped C.prog)
    (hok : Input.okWideB C.prog (w0.forCall (fun _ _ => 0) ⟨#[], args, []⟩) f ⟨#[], args, []⟩ = true)
    (hrow : s.preRow enc C.prog fn conds apart laid (w0.forCall (fun _ _ => 0) ⟨#[], args, []⟩).memory args) :
    ∃ (w : World) (tape : Tape) (i : Input), w.os = os ∧ (w.forCall tape i).Shaped C.prog ∧ i.vars = [] ∧ Input.okWide C.prog (w.forCall tape i) .any w.heap.size f i ∧
      s.preRow enc C.prog fn conds apart laid (w.forCall tape i).memory i.args ∧ ({ modest := modest } : Assume).holds C.prog (lone (Frame.enter C.prog f i.args .normal) [] (w.forCall tape i)) :=
  ⟨w0, fun _ _ => 0, ⟨#[], args, []⟩, hos, hsh, (Input.okWide_of_okWideB (base := 0) hok).1, (Input.okWide_of_okWideB hok).2, hrow, by
    simp only [Assume.holds]
    exact ⟨by simp, by simp, fun _ => Modest.zero, by simp, by simp⟩⟩
end Go.Proofs.YtdameoejigpnhabGreatDoor
