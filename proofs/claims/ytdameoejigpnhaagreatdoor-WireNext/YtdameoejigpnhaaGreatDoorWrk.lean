/- Whether two requests are the same; that anything is read at all. That anything is read at all. From the row's list to what the walks ask. -/
import Derived.Test.YtdameoejigpnhaaGreatDoorWrj
import Derived.Test.YtdameoejigpnhaaGreatDoorSma
import Derived.Test.YtdameoejigpnhaaGreatDoorBEq
import Derived.Lay
import Derived.Deep.DeepHandedRow
namespace Go.Proofs.YtdameoejigpnhaaGreatDoor
open Go.RowKit
set_option linter.unusedVariables false

def smW (x y : WX) : Bool := decide (x.m = y.m) && (decide (x.t = y.t) && (decide (x.k = y.k) && decide (x.b = y.b)))
set_option maxRecDepth 100000 in
theorem smW_iff (x y : WX) : smW x y = true ↔ x = y := by
  unfold smW
  obtain ⟨a, b, c, d⟩ := x
  obtain ⟨e, f, g, h⟩ := y
  simp
set_option maxRecDepth 100000 in
theorem strs_beq (s t : ByteArray) : (s.toList == t.toList) = decide (s = t) := by
  by_cases h : s = t
  · subst h; simp
  · rw [decide_eq_false h]
    refine beq_eq_false_iff_ne.2 (fun e => h ?_)
    rw [Lib.toList_data, Lib.toList_data] at e
    exact ba_ext e
set_option maxRecDepth 100000 in
set_option maxHeartbeats 1000000 in
theorem rsame_any (x y : WX) (a b : Option Addr) (n m c d : Nat) (w : World) (ha : Bts w a n c x.b) (hb : Bts w b m d y.b) :
    Calls Tryz.prog 13 #[reqV x (.slice a n c), reqV y (.slice b m d)] w fun e w' => e = .returned (.bool (smW x y)) ∧ Below w.heap.size w w' := by
  have hB1 : Below w.heap.size w (w.alloc (.cells #[.string x.m, .string x.t, .string x.k, .slice a n c] 26)) := (Below.refl _ _).alloc (Nat.le_refl _) _
  have hB2 : Below w.heap.size w ((w.alloc (.cells #[.string x.m, .string x.t, .string x.k, .slice a n c] 26)).alloc (.cells #[.string y.m, .string y.t, .string y.k, .slice b m d] 26)) := hB1.alloc (by simp) _
  have C1 : Hid (∀ W, Below w.heap.size w W → Calls Tryz.prog 14 #[.slice a n c, .slice b m d] W fun e w' => e = .returned (.bool (decide (x.b = y.b))) ∧ ∃ q, w' = W.drewN q) := fun W hW => same_any a b n m c d x.b y.b W (ha.below hW) (hb.below hW)
  have e1 := strs_beq x.m y.m
  have e2 := strs_beq x.t y.t
  have e3 := strs_beq x.k y.k
  have HS : Bx (smW x y = (decide (x.m = y.m) && (decide (x.t = y.t) && (decide (x.k = y.k) && decide (x.b = y.b))))) := ⟨rfl⟩
  have HB2 := Bx.mk hB2
  unfold reqV
  generalize smW x y = R at HS ⊢
  generalize decide (x.m = y.m) = b1 at *
  generalize decide (x.t = y.t) = b2 at *
  generalize decide (x.k = y.k) = b3 at *
  generalize decide (x.b = y.b) = b4 at *
  generalize x.m = xm at *
  generalize y.m = ym at *
  generalize x.t = xt at *
  generalize y.t = yt at *
  generalize x.k = xk at *
  generalize y.k = yk at *
  clear ha hb hB1 hB2
  cases b1 with
  | false =>
    go_enter Tryz.func13, Tryz.ntmps13
    go_wp2
    go_ret
    exact ⟨by rw [HS.out]; rfl, HB2.out⟩
  | true =>
    cases b2 with
    | false =>
      go_enter Tryz.func13, Tryz.ntmps13
      go_wp2
      go_ret
      exact ⟨by rw [HS.out]; rfl, HB2.out⟩
    | true =>
      cases b3 with
      | false =>
        go_enter Tryz.func13, Tryz.ntmps13
        go_wp2
        go_ret
        exact ⟨by rw [HS.out]; rfl, HB2.out⟩
      | true =>
        go_enter Tryz.func13, Tryz.ntmps13
        go_wp2_with fail
        refine (C1.out _ HB2.out).mono ?_
        rintro e w' ⟨rfl, q, rfl⟩
        go_wp2
        go_ret
        exact ⟨by rw [HS.out]; rfl, below_drewN HB2.out q⟩
set_option maxRecDepth 100000 in
set_option maxHeartbeats 1000000 in
theorem wsame_any (x y : WX) (a b : Option Addr) (n m c d : Nat) (w : World) (ha : Bts w a n c x.b) (hb : Bts w b m d y.b) :
    Calls Tryz.prog 37 #[reqV x (.slice a n c), reqV y (.slice b m d)] w fun e w' => e = .returned (.bool (smW x y)) ∧ Below w.heap.size w w' := by
  have hB1 : Below w.heap.size w (w.alloc (.cells #[.string x.m, .string x.t, .string x.k, .slice a n c] 26)) := (Below.refl _ _).alloc (Nat.le_refl _) _
  have hB2 : Below w.heap.size w ((w.alloc (.cells #[.string x.m, .string x.t, .string x.k, .slice a n c] 26)).alloc (.cells #[.string y.m, .string y.t, .string y.k, .slice b m d] 26)) := hB1.alloc (by simp) _
  have C1 : Hid (∀ W, Below w.heap.size w W → Calls Tryz.prog 50 #[.slice a n c, .slice b m d] W fun e w' => e = .returned (.bool (decide (x.b = y.b))) ∧ ∃ q, w' = W.drewN q) := fun W hW => (beq_any a b n m c d x.b y.b W (ha.below hW) (hb.below hW)).mono fun e w' h => ⟨h.1, 0, h.2 ▸ rfl⟩
  have e1 := strs_beq x.m y.m
  have e2 := strs_beq x.t y.t
  have e3 := strs_beq x.k y.k
  have HS : Bx (smW x y = (decide (x.m = y.m) && (decide (x.t = y.t) && (decide (x.k = y.k) && decide (x.b = y.b))))) := ⟨rfl⟩
  have HB2 := Bx.mk hB2
  unfold reqV
  generalize smW x y = R at HS ⊢
  generalize decide (x.m = y.m) = b1 at *
  generalize decide (x.t = y.t) = b2 at *
  generalize decide (x.k = y.k) = b3 at *
  generalize decide (x.b = y.b) = b4 at *
  generalize x.m = xm at *
  generalize y.m = ym at *
  generalize x.t = xt at *
  generalize y.t = yt at *
  generalize x.k = xk at *
  generalize y.k = yk at *
  clear ha hb hB1 hB2
  cases b1 with
  | false =>
    go_enter Tryz.func37, Tryz.ntmps37
    go_wp2
    go_ret
    exact ⟨by rw [HS.out]; rfl, HB2.out⟩
  | true =>
    cases b2 with
    | false =>
      go_enter Tryz.func37, Tryz.ntmps37
      go_wp2
      go_ret
      exact ⟨by rw [HS.out]; rfl, HB2.out⟩
    | true =>
      cases b3 with
      | false =>
        go_enter Tryz.func37, Tryz.ntmps37
        go_wp2
        go_ret
        exact ⟨by rw [HS.out]; rfl, HB2.out⟩
      | true =>
        go_enter Tryz.func37, Tryz.ntmps37
        go_wp2_with fail
        refine (C1.out _ HB2.out).mono ?_
        rintro e w' ⟨rfl, q, rfl⟩
        go_wp2
        go_ret
        exact ⟨by rw [HS.out]; rfl, below_drewN HB2.out q⟩
end Go.Proofs.YtdameoejigpnhaaGreatDoor
namespace Go.Proofs.YtdameoejigpnhaaGreatDoor
open Go.RowKit
set_option linter.unusedVariables false

def liveL : List Int := [71, 69, 84, 32, 47, 97, 32, 72, 84, 84, 80, 47, 49, 46, 49, 13, 10, 13, 10]
set_option maxRecDepth 100000 in
theorem wx_ext {x y : WX} (h1 : x.m = y.m) (h2 : x.t = y.t) (h3 : x.k = y.k) (h4 : x.b = y.b) : x = y := by
  obtain ⟨a, b, c, d⟩ := x
  obtain ⟨e, f, g, h⟩ := y
  simp only at h1 h2 h3 h4
  subst h1; subst h2; subst h3; subst h4; rfl
set_option maxRecDepth 100000 in
theorem live_run13 : runQ wp0 ws0 liveL 0 = (⟨strOf [71, 69, 84], strOf [47, 97], ⟨#[]⟩, []⟩, 19, 0) :=
  Prod.ext (wx_ext (by decide +kernel) (by decide +kernel) (by decide +kernel) (by decide +kernel)) (Prod.ext (by decide +kernel) (by decide +kernel))
set_option maxRecDepth 100000 in
set_option maxHeartbeats 1000000 in
theorem wlives_any (w : World) (he : Env w.heap.size w) :
    Calls Tryz.prog 15 #[] w fun e w' => e = .returned (.bool true) ∧ Below w.heap.size w w' := by
  have hm : Bts (w.alloc (.cells (bv liveL).toArray 5 (19, 20))) (some ⟨w.heap.size, 0, none⟩) 19 19 liveL := bts_const w liveL (by intro c hc; simp only [liveL, List.mem_cons, List.not_mem_nil, or_false] at hc; omega) (19, 20) (by decide)
  have hcv : (convert 22 22 (.slice (some ⟨w.heap.size, 0, none⟩) 19 19)).run Tryz.prog (w.alloc (.cells (bv liveL).toArray 5)) = .ok (.slice (some ⟨w.heap.size, 0, none⟩) 19 19) (w.alloc (.cells (bv liveL).toArray 5 (19, 20))) := Lib.run_convert_bytes_const w _ _ _ 19 19 Tryz.underlying22 Tryz.underlying5
  have hb : Below w.heap.size w (w.alloc (.cells (bv liveL).toArray 5 (19, 20))) := (Below.refl _ _).alloc (Nat.le_refl _) _
  generalize w.alloc (.cells (bv liveL).toArray 5 (19, 20)) = w1 at hm hcv hb
  unfold bv liveL at hcv
  simp only [List.map_cons, List.map_nil] at hcv
  have HM := Bx.mk hm
  have HB1 := Bx.mk hb
  have HE : Bx (Env w1.heap.size w1) := ⟨(he.below hb).low hb.size⟩
  clear hm hb he
  go_enter Tryz.func15, Tryz.ntmps15
  go_wp2_with fail
  refine (wwhole_any _ _ _ _ _ HM.out HE.out).mono ?_
  rintro e w2 ⟨v, rfl, hbt, ho, hb2⟩
  rw [live_run13] at ho hbt ⊢
  obtain ⟨va, vc, rfl⟩ := own_sl ho
  have HB := Bx.mk (bstep HB1.out hb2)
  have HB3 : Bx (Below w.heap.size w (w2.alloc (.cells #[.string (strOf [71, 69, 84]), .string (strOf [47, 97]), .string ⟨#[]⟩, .slice va ([] : List Int).length vc] 26))) := ⟨HB.out.alloc HB.out.size _⟩
  have e9 : ((strOf [47, 97]).toList == [47, 97]) = true := by rw [lit_eq (l := [47, 97]) (byt_dec (by decide)) [47, 97] (byt_dec (by decide)) [47, 97] rfl]; rfl
  generalize strOf [71, 69, 84] = sm at *
  generalize strOf [47, 97] = st at *
  clear hcv HM ho hb2 hbt
  unfold reqV
  simp only
  go_wp2
  go_ret
  exact ⟨rfl, HB3.out⟩
end Go.Proofs.YtdameoejigpnhaaGreatDoor
namespace Go.Proofs.YtdameoejigpnhaaGreatDoor
open Go.RowKit
set_option linter.unusedVariables false

set_option maxRecDepth 100000 in
theorem env_at {W : World} {l : List (String × DataW Unit)} (h : laidMet Tryz.prog l W) (hsh : W.ShapedOpen Tryz.prog) (i j k : Nat) (hi : l[i]? = some ("internal/strconv.uint64pow10", Rows.laid_internal_strconv_uint64pow10)) (hj : l[j]? = some ("strconv.ErrRange", Rows.laid_strconv_ErrRange)) (hk : l[k]? = some ("strconv.ErrSyntax", Rows.laid_strconv_ErrSyntax)) : Env W.heap.size W :=
  Env.new (tens_at h i hi) (errs_at h j k hj hk) (Tryz.laysM145.s1_3 W hsh)
set_option maxRecDepth 100000 in
theorem Env.up {w w' : World} (h : Env w.heap.size w) (hb : Below w.heap.size w w') : Env w'.heap.size w' := (h.below hb).low hb.size
set_option maxRecDepth 100000 in
/-- two readings that are one -/
theorem wh_body {T : WX × Nat × Int} {w w' : World} {v : Value} (hb : Byt T.1.b) (ho : w'.ownsRow w.heap.size 5 1 v T.1.b.length (bv T.1.b)) : ∃ a c, v = .slice a T.1.b.length c ∧ Bts w' a T.1.b.length c T.1.b := Bts.of_owns ho hb
set_option maxRecDepth 100000 in
/-- a start that fits: its shape is known, whatever its tables hold -/
theorem witness_row_zip {H : Type} {enc : TypeId × Value → H} {C : Checked} {os : Os} {f : FuncId} {fn : Func} {s : OpenSpec} {conds : List PathCond} {apart : Bool} {laid : List (String × DataW Unit)} (modest : Bool) (w0 : World) (args : Array Value) (hos : w0.os = os)
    (hsh : (w0.forCall (fun _ _ => 0) ⟨#[], args, []⟩).Shaped C.prog)
    (hok : Input.okWideB C.prog (w0.forCall (fun _ _ => 0) ⟨#[], args, []⟩) f ⟨#[], args, []⟩ = true)
    (hrow : s.preRow enc C.prog fn conds apart laid (w0.forCall (fun _ _ => 0) ⟨#[], args, []⟩).memory args) :
    ∃ (w : World) (tape : Tape) (i : Input), w.os = os ∧ (w.forCall tape i).Shaped C.prog ∧ i.vars = [] ∧ Input.okWide C.prog (w.forCall tape i) .any w.heap.size f i ∧
      s.preRow enc C.prog fn conds apart laid (w.forCall tape i).memory i.args ∧ ({ modest := modest } : Assume).holds C.prog (lone (Frame.enter C.prog f i.args .normal) [] (w.forCall tape i)) :=
  ⟨w0, fun _ _ => 0, ⟨#[], args, []⟩, hos, hsh, (Input.okWide_of_okWideB (base := 0) hok).1, (Input.okWide_of_okWideB hok).2, hrow, by
    simp only [Assume.holds]
    exact ⟨by simp, by simp, fun _ => Modest.zero, by simp, by simp⟩⟩
end Go.Proofs.YtdameoejigpnhaaGreatDoor
