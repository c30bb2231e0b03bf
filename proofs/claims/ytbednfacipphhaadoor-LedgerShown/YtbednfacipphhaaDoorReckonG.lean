/- What reckonGrowth answers. -/
import Derived.Test.YtbednfacipphhaaDoorReckon
namespace Go.Proofs.YtbednfacipphhaaDoor
open Go.RowKit
set_option linter.unusedVariables false

/-- what stays while a growth is reckoned: the old root, the last digest, the answers' places -/
structure RGs (VR : Nat) (r old : List Int) (w wr : World) : Prop where
  low : Below w.heap.size w wr
  od : wr.heap[w.heap.size]? = some (.cells (bv old).toArray 30 (0, 0))
  rr : wr.heap[VR]? = some (.cells (bv r).toArray 30 (0, 0))
  h1 : ∃ cs : Array Value, cs.size = 32 ∧ wr.heap[w.heap.size + 1]? = some (.cells cs 30 (0, 0))
  h2 : ∃ cs : Array Value, cs.size = 32 ∧ wr.heap[w.heap.size + 2]? = some (.cells cs 30 (0, 0))
  n1 : VR ≠ w.heap.size + 1
  n2 : VR ≠ w.heap.size + 2
  tab : Tab wr
variable {VR : Nat} {r old : List Int} {w wr w1 : World}
set_option maxRecDepth 100000 in
theorem RGs.step (h : RGs VR r old w wr) (hb : Below wr.heap.size wr w1) : RGs VR r old w w1 := by
  obtain ⟨c1, e1, k1⟩ := h.h1
  obtain ⟨c2, e2, k2⟩ := h.h2
  exact ⟨h.low.trans (hb.mono h.low.size), (hb.block _ (Array.getElem?_eq_some_iff.1 h.od).1).trans h.od, (hb.block _ (Array.getElem?_eq_some_iff.1 h.rr).1).trans h.rr,
    ⟨c1, e1, (hb.block _ (Array.getElem?_eq_some_iff.1 k1).1).trans k1⟩, ⟨c2, e2, (hb.block _ (Array.getElem?_eq_some_iff.1 k2).1).trans k2⟩, h.n1, h.n2, h.tab.below hb⟩
set_option maxRecDepth 100000 in
theorem RGs.drewN (h : RGs VR r old w wr) (n : Nat) : RGs VR r old w (wr.drewN n) := ⟨below_drewN h.low n, h.od, h.rr, h.h1, h.h2, h.n1, h.n2, h.tab.drewN n⟩
set_option maxRecDepth 100000 in
theorem RGs.there1 {Z : List Int} (h : RGs VR r old w wr) (hZ : Z.length = 32) : wr.there (w.heap.size + 1) 0 (bv Z).toArray.size := by
  obtain ⟨c, e, k⟩ := h.h1
  have := there_row k
  rw [e] at this
  have hs : (bv Z).toArray.size = 32 := by rw [List.size_toArray, bv_length, hZ]
  rw [hs]; exact this
set_option maxRecDepth 100000 in
theorem RGs.there2 {Z : List Int} (h : RGs VR r old w wr) (hZ : Z.length = 32) : wr.there (w.heap.size + 2) 0 (bv Z).toArray.size := by
  obtain ⟨c, e, k⟩ := h.h2
  have := there_row k
  rw [e] at this
  have hs : (bv Z).toArray.size = 32 := by rw [List.size_toArray, bv_length, hZ]
  rw [hs]; exact this
set_option maxRecDepth 100000 in
theorem RGs.put1 {Z : List Int} (h : RGs VR r old w wr) (hp : 0 < w.heap.size) (hZ : Z.length = 32) : RGs VR r old w (wr.setCells (w.heap.size + 1) 0 (bv Z).toArray.toList) ∧ (wr.setCells (w.heap.size + 1) 0 (bv Z).toArray.toList).heap[w.heap.size + 1]? = some (.cells (bv Z).toArray 30 (0, 0)) := by
  obtain ⟨c1, e1, k1⟩ := h.h1
  obtain ⟨c2, e2, k2⟩ := h.h2
  have hst := heap_stored (vs := (bv Z).toArray) k1 (by rw [e1, List.size_toArray, bv_length, hZ])
  have hbut : But (w.heap.size + 1) wr (wr.setCells (w.heap.size + 1) 0 (bv Z).toArray.toList) := (But.refl _ _).setCells _ 0
  exact ⟨⟨below_setCells h.low _ (by omega) _ 0, (hbut.block _ (Array.getElem?_eq_some_iff.1 h.od).1 (by omega)).trans h.od, (hbut.block _ (Array.getElem?_eq_some_iff.1 h.rr).1 h.n1).trans h.rr, ⟨_, by rw [List.size_toArray, bv_length, hZ], hst⟩,
    ⟨c2, e2, (hbut.block _ (Array.getElem?_eq_some_iff.1 k2).1 (by omega)).trans k2⟩, h.n1, h.n2, h.tab.but hbut (by omega)⟩, hst⟩
set_option maxRecDepth 100000 in
theorem RGs.put2 {Z : List Int} (h : RGs VR r old w wr) (hp : 0 < w.heap.size) (hZ : Z.length = 32) : RGs VR r old w (wr.setCells (w.heap.size + 2) 0 (bv Z).toArray.toList) ∧ (wr.setCells (w.heap.size + 2) 0 (bv Z).toArray.toList).heap[w.heap.size + 2]? = some (.cells (bv Z).toArray 30 (0, 0)) := by
  obtain ⟨c1, e1, k1⟩ := h.h1
  obtain ⟨c2, e2, k2⟩ := h.h2
  have hst := heap_stored (vs := (bv Z).toArray) k2 (by rw [e2, List.size_toArray, bv_length, hZ])
  have hbut : But (w.heap.size + 2) wr (wr.setCells (w.heap.size + 2) 0 (bv Z).toArray.toList) := (But.refl _ _).setCells _ 0
  exact ⟨⟨below_setCells h.low _ (by omega) _ 0, (hbut.block _ (Array.getElem?_eq_some_iff.1 h.od).1 (by omega)).trans h.od, (hbut.block _ (Array.getElem?_eq_some_iff.1 h.rr).1 h.n2).trans h.rr,
    ⟨c1, e1, (hbut.block _ (Array.getElem?_eq_some_iff.1 k1).1 (by omega)).trans k1⟩, ⟨_, by rw [List.size_toArray, bv_length, hZ], hst⟩, h.n1, h.n2, h.tab.but hbut (by omega)⟩, hst⟩
set_option maxRecDepth 100000 in
theorem RGs.keep1 {D : Array Value} (h : wr.heap[w.heap.size + 1]? = some (.cells D 30 (0, 0))) (vs : List Value) : (wr.setCells (w.heap.size + 2) 0 vs).heap[w.heap.size + 1]? = some (.cells D 30 (0, 0)) :=
  (((But.refl (w.heap.size + 2) wr).setCells vs 0).block _ (Array.getElem?_eq_some_iff.1 h).1 (by omega)).trans h
set_option maxRecDepth 100000 in
theorem dgi {Z : List Int} (h : Z.length = 32) : Bx ((Tryd.prog.info? 30).map (·.size) = some (bv Z).toArray.size) ∧ Bx ((bv Z).toArray.all (·.oneCell') = true) ∧ (Tryd.prog.info? 30).map (·.size) = some (bv Z).length :=
  ⟨⟨by rw [List.size_toArray, bv_length, h]; exact dig_info⟩, ⟨all_oneCell_toArray (bv_one _)⟩, by rw [bv_length, h]; exact dig_info⟩

set_option maxRecDepth 100000 in
set_option maxHeartbeats 2000000 in
theorem reckong_any (n : Nat) : ∀ (m : Nat) (b : Bool) (old : List Int) (a : Option Addr) (len cap : Nat) (P : List (List Int)) (x : Int) (w : World), 1 ≤ m → m ≤ n → n ≤ 9223372036854775807 → Dg old → Dgs w a len cap P → Tab w →
    Calls Tryd.prog 61 #[.agg (bv old).toArray, .int .i64 m, .int .i64 n, .bool b, .slice a len cap, .int .i64 x] w fun e w' => ∃ f g, e = .returned (.tuple #[.agg (bv f).toArray, .agg (bv g).toArray, .bool (decide (P.length = need b (gstepsL n m)))]) ∧ Dg f ∧ Dg g ∧ (P.length = need b (gstepsL n m) → (f, g) = gres x b (gstepsL n m) P old) ∧ Below w.heap.size w w' := by
  induction n using Nat.strongRecOn with
  | ind n ih =>
  intro m b old a len cap P x w h1m hmn hn63 holdd hP htab
  have hlen := hP.len_eq
  have hpos := htab.pos
  have hb0 : Below w.heap.size w (((w.alloc (.cells (bv old).toArray 30)).alloc (.cells #[.int .u8 0, .int .u8 0, .int .u8 0, .int .u8 0, .int .u8 0, .int .u8 0, .int .u8 0, .int .u8 0, .int .u8 0, .int .u8 0, .int .u8 0, .int .u8 0, .int .u8 0, .int .u8 0, .int .u8 0, .int .u8 0, .int .u8 0, .int .u8 0, .int .u8 0, .int .u8 0, .int .u8 0, .int .u8 0, .int .u8 0, .int .u8 0, .int .u8 0, .int .u8 0, .int .u8 0, .int .u8 0, .int .u8 0, .int .u8 0, .int .u8 0, .int .u8 0] 30)).alloc (.cells #[.int .u8 0, .int .u8 0, .int .u8 0, .int .u8 0, .int .u8 0, .int .u8 0, .int .u8 0, .int .u8 0, .int .u8 0, .int .u8 0, .int .u8 0, .int .u8 0, .int .u8 0, .int .u8 0, .int .u8 0, .int .u8 0, .int .u8 0, .int .u8 0, .int .u8 0, .int .u8 0, .int .u8 0, .int .u8 0, .int .u8 0, .int .u8 0, .int .u8 0, .int .u8 0, .int .u8 0, .int .u8 0, .int .u8 0, .int .u8 0, .int .u8 0, .int .u8 0] 30)) := (((Below.refl _ _).alloc (Nat.le_refl _) _).alloc (by simp) _).alloc (by simp; omega) _
  have hRG0 : RGs w.heap.size old old w (((w.alloc (.cells (bv old).toArray 30)).alloc (.cells #[.int .u8 0, .int .u8 0, .int .u8 0, .int .u8 0, .int .u8 0, .int .u8 0, .int .u8 0, .int .u8 0, .int .u8 0, .int .u8 0, .int .u8 0, .int .u8 0, .int .u8 0, .int .u8 0, .int .u8 0, .int .u8 0, .int .u8 0, .int .u8 0, .int .u8 0, .int .u8 0, .int .u8 0, .int .u8 0, .int .u8 0, .int .u8 0, .int .u8 0, .int .u8 0, .int .u8 0, .int .u8 0, .int .u8 0, .int .u8 0, .int .u8 0, .int .u8 0] 30)).alloc (.cells #[.int .u8 0, .int .u8 0, .int .u8 0, .int .u8 0, .int .u8 0, .int .u8 0, .int .u8 0, .int .u8 0, .int .u8 0, .int .u8 0, .int .u8 0, .int .u8 0, .int .u8 0, .int .u8 0, .int .u8 0, .int .u8 0, .int .u8 0, .int .u8 0, .int .u8 0, .int .u8 0, .int .u8 0, .int .u8 0, .int .u8 0, .int .u8 0, .int .u8 0, .int .u8 0, .int .u8 0, .int .u8 0, .int .u8 0, .int .u8 0, .int .u8 0, .int .u8 0] 30)) := by
    have ho : (((w.alloc (.cells (bv old).toArray 30)).alloc (.cells #[.int .u8 0, .int .u8 0, .int .u8 0, .int .u8 0, .int .u8 0, .int .u8 0, .int .u8 0, .int .u8 0, .int .u8 0, .int .u8 0, .int .u8 0, .int .u8 0, .int .u8 0, .int .u8 0, .int .u8 0, .int .u8 0, .int .u8 0, .int .u8 0, .int .u8 0, .int .u8 0, .int .u8 0, .int .u8 0, .int .u8 0, .int .u8 0, .int .u8 0, .int .u8 0, .int .u8 0, .int .u8 0, .int .u8 0, .int .u8 0, .int .u8 0, .int .u8 0] 30)).alloc (.cells #[.int .u8 0, .int .u8 0, .int .u8 0, .int .u8 0, .int .u8 0, .int .u8 0, .int .u8 0, .int .u8 0, .int .u8 0, .int .u8 0, .int .u8 0, .int .u8 0, .int .u8 0, .int .u8 0, .int .u8 0, .int .u8 0, .int .u8 0, .int .u8 0, .int .u8 0, .int .u8 0, .int .u8 0, .int .u8 0, .int .u8 0, .int .u8 0, .int .u8 0, .int .u8 0, .int .u8 0, .int .u8 0, .int .u8 0, .int .u8 0, .int .u8 0, .int .u8 0] 30)).heap[w.heap.size]? = some (.cells (bv old).toArray 30 (0, 0)) := by rw [heap_alloc_old _ _ (by simp; omega), heap_alloc_old _ _ (by simp), heap_alloc_new]
    refine ⟨hb0, ho, ho, ⟨#[.int .u8 0, .int .u8 0, .int .u8 0, .int .u8 0, .int .u8 0, .int .u8 0, .int .u8 0, .int .u8 0, .int .u8 0, .int .u8 0, .int .u8 0, .int .u8 0, .int .u8 0, .int .u8 0, .int .u8 0, .int .u8 0, .int .u8 0, .int .u8 0, .int .u8 0, .int .u8 0, .int .u8 0, .int .u8 0, .int .u8 0, .int .u8 0, .int .u8 0, .int .u8 0, .int .u8 0, .int .u8 0, .int .u8 0, .int .u8 0, .int .u8 0, .int .u8 0], rfl, ?_⟩, ⟨#[.int .u8 0, .int .u8 0, .int .u8 0, .int .u8 0, .int .u8 0, .int .u8 0, .int .u8 0, .int .u8 0, .int .u8 0, .int .u8 0, .int .u8 0, .int .u8 0, .int .u8 0, .int .u8 0, .int .u8 0, .int .u8 0, .int .u8 0, .int .u8 0, .int .u8 0, .int .u8 0, .int .u8 0, .int .u8 0, .int .u8 0, .int .u8 0, .int .u8 0, .int .u8 0, .int .u8 0, .int .u8 0, .int .u8 0, .int .u8 0, .int .u8 0, .int .u8 0], rfl, ?_⟩, by omega, by omega, htab.below hb0⟩
    · rw [heap_alloc_old _ _ (by simp), show w.heap.size + 1 = (w.alloc (.cells (bv old).toArray 30)).heap.size from by simp, heap_alloc_new]
    · rw [show w.heap.size + 2 = ((w.alloc (.cells (bv old).toArray 30)).alloc (.cells #[.int .u8 0, .int .u8 0, .int .u8 0, .int .u8 0, .int .u8 0, .int .u8 0, .int .u8 0, .int .u8 0, .int .u8 0, .int .u8 0, .int .u8 0, .int .u8 0, .int .u8 0, .int .u8 0, .int .u8 0, .int .u8 0, .int .u8 0, .int .u8 0, .int .u8 0, .int .u8 0, .int .u8 0, .int .u8 0, .int .u8 0, .int .u8 0, .int .u8 0, .int .u8 0, .int .u8 0, .int .u8 0, .int .u8 0, .int .u8 0, .int .u8 0, .int .u8 0] 30)).heap.size from by simp, heap_alloc_new]
  obtain ⟨HIold, HOold, hio⟩ := dgi holdd.1
  have HRG0 : Bx _ := ⟨hRG0⟩
  clear hRG0
  by_cases hmn2 : m = n
  · subst hmn2
    have q1 : ((m : Int) == (m : Int)) = true := by simp
    have HS : Bx (gstepsL m m = []) := ⟨gsteps_end (Nat.le_refl _)⟩
    cases b with
    | true =>
      obtain ⟨ok, hok, hokn⟩ : ∃ ok, ((len : Int) == 0) = ok ∧ ok = decide (P.length = need true (gstepsL m m)) := ⟨_, rfl, by
        rw [HS.out, hlen]
        by_cases h : len = 0
        · subst h; rfl
        · rw [show ((len : Int) == 0) = false by simp; omega, decide_eq_false (by show ¬ len = 0; omega)]⟩
      have HRES : Bx (Ending.returned (.tuple #[.agg (bv old).toArray, .agg (bv old).toArray, .bool ok]) = .returned (.tuple #[.agg (bv old).toArray, .agg (bv old).toArray, .bool (decide (P.length = need true (gstepsL m m)))])) := ⟨by rw [hokn]⟩
      have HGR : Bx (P.length = need true (gstepsL m m) → (old, old) = gres x true (gstepsL m m) P old) := ⟨fun _ => by rw [HS.out]; exact (gup_nil x P _).symm⟩
      obtain ⟨VR, hVR⟩ : ∃ VR, VR = w.heap.size := ⟨_, rfl⟩
      obtain ⟨r, hr⟩ : ∃ r, r = old := ⟨_, rfl⟩
      clear ih hP hlen hokn
      go_enter Tryd.func61, Tryd.ntmps61
      go_wp2_with fail
      have hk0 := HRG0.out
      clear HRG0 hb0
      generalize ((w.alloc (.cells (bv old).toArray 30)).alloc (.cells #[.int .u8 0, .int .u8 0, .int .u8 0, .int .u8 0, .int .u8 0, .int .u8 0, .int .u8 0, .int .u8 0, .int .u8 0, .int .u8 0, .int .u8 0, .int .u8 0, .int .u8 0, .int .u8 0, .int .u8 0, .int .u8 0, .int .u8 0, .int .u8 0, .int .u8 0, .int .u8 0, .int .u8 0, .int .u8 0, .int .u8 0, .int .u8 0, .int .u8 0, .int .u8 0, .int .u8 0, .int .u8 0, .int .u8 0, .int .u8 0, .int .u8 0, .int .u8 0] 30)).alloc (.cells #[.int .u8 0, .int .u8 0, .int .u8 0, .int .u8 0, .int .u8 0, .int .u8 0, .int .u8 0, .int .u8 0, .int .u8 0, .int .u8 0, .int .u8 0, .int .u8 0, .int .u8 0, .int .u8 0, .int .u8 0, .int .u8 0, .int .u8 0, .int .u8 0, .int .u8 0, .int .u8 0, .int .u8 0, .int .u8 0, .int .u8 0, .int .u8 0, .int .u8 0, .int .u8 0, .int .u8 0, .int .u8 0, .int .u8 0, .int .u8 0, .int .u8 0, .int .u8 0] 30) = w0 at hk0 ⊢
      have hk : RGs VR r old w w0.drew := by rw [hVR, hr]; exact hk0.drewN 1
      clear hk0 hVR hr
      refine wp_region_held_drew (S := fun W => RGs VR r old w W) (by kernel_rfl) hk (fun _ => ?_)
      refine wpAnyH_take (i := 0) (oi := { dst := some 24, op := Op.load 30 (Operand.tmp 6), type := 30, pos := "merkle.go:141", after := #[], guard := none }) (v := .agg (bv old).toArray) rfl (by kernel_rfl) (by kernel_rfl) (by kernel_rfl) (fun _ _ _ h => h) (yieldsIf_load_mid (by rfl) 30 (.tmp 6) rfl w.heap.size 0 rfl (bv old) _ (fun W h => range_row h.od) Tryd.underlying30 rfl hio) hk ?_
      simp only [Act.put, List.setIfInBounds_toArray, List.set_cons_zero, List.set_cons_succ]
      refine wpAnyH_take (i := 1) (oi := { dst := some 25, op := Op.load 30 (Operand.tmp 6), type := 30, pos := "merkle.go:141", after := #[{ on := 5, ground := Ground.gcOnly Departure.lateStores }], guard := none }) (v := .agg (bv old).toArray) rfl (by kernel_rfl) (by kernel_rfl) (by kernel_rfl) (fun _ _ _ h => h) (yieldsIf_load_mid (by rfl) 30 (.tmp 6) rfl w.heap.size 0 rfl (bv old) _ (fun W h => range_row h.od) Tryd.underlying30 rfl hio) hk ?_
      simp only [Act.put, List.setIfInBounds_toArray, List.set_cons_zero, List.set_cons_succ]
      refine wpAnyH_take (i := 2) (oi := { dst := some 26, op := Op.move (Operand.tmp 4), type := 60, pos := "merkle.go:141", after := #[], guard := none }) (v := ?vrg21) rfl (by kernel_rfl) (by kernel_rfl) (by kernel_rfl) (fun _ _ _ h => h) (Or.inl ⟨by rfl, ?yrg21⟩) hk ?rrg21
      case yrg21 => (intro w hSw; (try dsimp only at hSw); go_simp; first | done | with_reducible rfl)
      simp only [Act.put, List.setIfInBounds_toArray, List.set_cons_zero, List.set_cons_succ]
      refine wpAnyH_take (i := 3) (oi := { dst := some 27, op := Op.call { callee := Callee.builtin Builtin.len, args := #[Operand.tmp 26], argTypes := #[60] }, type := 3, pos := "merkle.go:141", after := #[{ on := 2, ground := Ground.data }], guard := none }) (v := ?vrg22) rfl (by kernel_rfl) (by kernel_rfl) (by kernel_rfl) (fun _ _ _ h => h) (Or.inl ⟨by rfl, ?yrg22⟩) hk ?rrg22
      case yrg22 => (intro w hSw; (try dsimp only at hSw); go_simp; first | done | with_reducible rfl)
      simp only [Act.put, List.setIfInBounds_toArray, List.set_cons_zero, List.set_cons_succ]
      refine wpAnyH_take (i := 4) (oi := { dst := some 28, op := Op.binOp BinOp.eql 3 (Operand.tmp 27) (Operand.const (Value.int IntKind.i64 0)) 3, type := 4, pos := "merkle.go:141", after := #[{ on := 3, ground := Ground.data }, { on := 6, ground := Ground.gcOnly Departure.lateStores }], guard := none }) (v := ?vrg23) rfl (by kernel_rfl) (by kernel_rfl) (by kernel_rfl) (fun _ _ _ h => h) (Or.inl ⟨by rfl, ?yrg23⟩) hk ?rrg23
      case yrg23 => (intro w hSw; (try dsimp only at hSw); go_simp; first | done | with_reducible rfl)
      simp only [Act.put, List.setIfInBounds_toArray, List.set_cons_zero, List.set_cons_succ]
      refine wpAnyH_ready (rs := [5]) (by decide +kernel) (by simp) ?_
      refine AllReadyH.cons (o := { dst := none, op := Op.store 30 (Operand.tmp 12) (Operand.tmp 24), type := 0, pos := "merkle.go:141", after := #[{ on := 0, ground := Ground.data }, { on := 0, ground := Ground.phase }, { on := 1, ground := Ground.textOnly Departure.lateStores }, { on := 2, ground := Ground.textOnly Departure.lateStores }, { on := 3, ground := Ground.textOnly Departure.lateStoresUnsure }, { on := 4, ground := Ground.textOnly Departure.lateStores }], guard := none }) rfl (fun K hK => ?_) AllReadyH.nil
      rw [if_pos (by rfl)]
      refine wp_store_mid 30 (.tmp 12) (.tmp 24) rfl (w.heap.size + 1) 0 (bv old).toArray rfl rfl ?htrg24 HIold.out HOold.out ?_
      case htrg24 => exact hk.there1 (holdd.1)
      obtain ⟨hk2, hv1⟩ := hk.put1 hpos (holdd.1)
      replace hk := hk2
      clear hk2
      simp only [Act.put]
      refine hK.out _ _ hk (fun _ => ?_)
      clear hK K
      try simp only [Act.put, List.setIfInBounds_toArray, List.set_cons_zero, List.set_cons_succ]
      refine wpAnyH_ready (rs := [6]) (by decide +kernel) (by simp) ?_
      refine AllReadyH.cons (o := { dst := none, op := Op.store 30 (Operand.tmp 13) (Operand.tmp 25), type := 0, pos := "merkle.go:141", after := #[{ on := 1, ground := Ground.data }, { on := 5, ground := Ground.chain }, { on := 0, ground := Ground.phase }, { on := 1, ground := Ground.phase }, { on := 2, ground := Ground.textOnly Departure.lateStores }, { on := 3, ground := Ground.textOnly Departure.lateStoresUnsure }, { on := 4, ground := Ground.textOnly Departure.lateStores }, { on := 5, ground := Ground.phase }], guard := none }) rfl (fun K hK => ?_) AllReadyH.nil
      rw [if_pos (by rfl)]
      refine wp_store_mid 30 (.tmp 13) (.tmp 25) rfl (w.heap.size + 2) 0 (bv old).toArray rfl rfl ?htrg25 HIold.out HOold.out ?_
      case htrg25 => exact hk.there2 (holdd.1)
      replace hv1 := RGs.keep1 hv1 (bv old).toArray.toList
      obtain ⟨hk2, hv2⟩ := hk.put2 hpos (holdd.1)
      replace hk := hk2
      clear hk2
      simp only [Act.put]
      refine hK.out _ _ hk (fun _ => ?_)
      clear hK K
      try simp only [Act.put, List.setIfInBounds_toArray, List.set_cons_zero, List.set_cons_succ]
      refine wpAnyH_take (i := 7) (oi := { dst := some 14, op := Op.assign (Operand.tmp 28), type := 4, pos := "merkle.go:141", after := #[{ on := 4, ground := Ground.data }, { on := 6, ground := Ground.chain }, { on := 0, ground := Ground.phase }, { on := 1, ground := Ground.phase }, { on := 2, ground := Ground.phase }, { on := 3, ground := Ground.phase }, { on := 4, ground := Ground.phase }, { on := 5, ground := Ground.phase }, { on := 6, ground := Ground.phase }], guard := none }) (v := ?vrg26) rfl (by kernel_rfl) (by kernel_rfl) (by kernel_rfl) (fun _ _ _ h => h) (Or.inl ⟨by rfl, ?yrg26⟩) hk ?rrg26
      case yrg26 => (intro w hSw; (try dsimp only at hSw); go_simp; first | done | with_reducible rfl)
      simp only [Act.put, List.setIfInBounds_toArray, List.set_cons_zero, List.set_cons_succ]
      refine wpAnyH_done (by decide +kernel) ?_ _
      have hlow := hk.low
      clear hk
      go_wp2
      exact bodyPost_ret (v := .tuple #[.agg (bv old).toArray, .agg (bv old).toArray, .bool ok]) (results_cct rfl _ _ (w.heap.size + 1) (w.heap.size + 2) (bv old).toArray (bv old).toArray _ rfl rfl rfl hv1 HIold.out hv2 HIold.out) rfl ⟨old, old, HRES.out, holdd, holdd, HGR.out, hlow⟩
    | false =>
      by_cases h0 : len = 0
      · have e0 : ((len : Int) == 0) = true := by simp; omega
        have HNE : Bx (P.length = need false (gstepsL m m) → False) := ⟨fun h => by rw [HS.out] at h; have h1 : P.length = 1 := h; omega⟩
        have HRES : Bx (Ending.returned (.tuple #[.agg (bv z0).toArray, .agg (bv z0).toArray, .bool false]) = .returned (.tuple #[.agg (bv z0).toArray, .agg (bv z0).toArray, .bool (decide (P.length = need false (gstepsL m m)))])) := ⟨by rw [decide_eq_false HNE.out]⟩
        have hz0d := z0_dg
        obtain ⟨HIz, HOz, _⟩ := dgi z0_dg.1
        obtain ⟨hp1, hv1⟩ := HRG0.out.put1 hpos hz0d.1
        have HT1 : Bx _ := ⟨HRG0.out.there1 hz0d.1⟩
        have HT2 : Bx _ := ⟨hp1.there2 hz0d.1⟩
        obtain ⟨hp2, hv2⟩ := hp1.put2 hpos hz0d.1
        have hv1' := RGs.keep1 hv1 (bv z0).toArray.toList
        have HV1 : Bx _ := ⟨hv1'⟩
        have HV2 : Bx _ := ⟨hv2⟩
        have HLW : Bx _ := ⟨hp2.low⟩
        clear hp1 hp2 hv1 hv2 hv1' HRG0 ih hP hlen hb0
        go_enter Tryd.func61, Tryd.ntmps61
        go_wp2_with (first
          | (refine wpList_store_mid rfl 30 (.tmp 12) (.tmp 32) rfl (w.heap.size + 1) 0 (bv z0).toArray rfl z0_eval ?ht HIz.out HOz.out ?_; (case ht => exact HT1.out))
          | (refine wpList_store_mid rfl 30 (.tmp 13) (.tmp 33) rfl (w.heap.size + 1 + 1) 0 (bv z0).toArray rfl z0_eval ?ht HIz.out HOz.out ?_; (case ht => exact HT2.out)))
        exact bodyPost_ret (v := .tuple #[.agg (bv z0).toArray, .agg (bv z0).toArray, .bool false]) (results_cct rfl _ _ (w.heap.size + 1) (w.heap.size + 2) (bv z0).toArray (bv z0).toArray _ rfl rfl rfl HV1.out HIz.out HV2.out HIz.out) rfl ⟨z0, z0, HRES.out, z0_dg, z0_dg, fun h => (HNE.out h).elim, HLW.out⟩
      · obtain ⟨ok, hok, hokn⟩ : ∃ ok, ((len : Int) - 1 == 0) = ok ∧ ok = decide (P.length = need false (gstepsL m m)) := ⟨_, rfl, by
          rw [HS.out, hlen]
          by_cases h : len = 1
          · subst h; rfl
          · rw [show ((len : Int) - 1 == 0) = false by simp; omega, decide_eq_false (by show ¬ len = 1; omega)]⟩
        have e9 : ((len - 1 : Nat) : Int) = (len : Int) - 1 := by omega
        have e0 : ((len : Int) == 0) = false := by simp; omega
        have HPS : Bx (P = P.take (len - 1) ++ [P.getD (len - 1) []]) := ⟨last_split P len hlen (by omega)⟩
        have hrd := hP.dig.getD (len - 1) (by omega)
        have HCL : Bx (∀ W, Below w.heap.size w W → Calls Tryd.prog 85 #[.slice a len cap] W fun e w' => e = .returned (.tuple #[.slice a (len - 1) cap, .agg (bv (P.getD (len - 1) [])).toArray]) ∧ Below W.heap.size W w') := ⟨fun W hW => cutlast_any a len cap P W (hP.below hW) (by omega)⟩
        have HGR : Bx (P.length = need false (gstepsL m m) → (P.getD (len - 1) [], P.getD (len - 1) []) = gres x false (gstepsL m m) P old) := ⟨fun h => by
          rw [HS.out] at h ⊢
          have h1 : P.length = 1 := h
          rw [show len - 1 = 0 from by omega]
          exact (gup_nil x (P.drop 1) _).symm⟩
        generalize hrr : P.getD (len - 1) [] = r at HPS hrd HCL HGR
        have HRES : Bx (Ending.returned (.tuple #[.agg (bv r).toArray, .agg (bv r).toArray, .bool ok]) = .returned (.tuple #[.agg (bv r).toArray, .agg (bv r).toArray, .bool (decide (P.length = need false (gstepsL m m)))])) := ⟨by rw [hokn]⟩
        obtain ⟨HIr, HOr, hir⟩ := dgi hrd.1
        have hokl : (((len - 1 : Nat) : Int) == 0) = ok := by rw [e9]; exact hok
        clear ih hP hlen hokn hrr e9 hok
        go_enter Tryd.func61, Tryd.ntmps61
        go_wp2_with fail
        have hk0 := HRG0.out
        clear HRG0 hb0
        generalize ((w.alloc (.cells (bv old).toArray 30)).alloc (.cells #[.int .u8 0, .int .u8 0, .int .u8 0, .int .u8 0, .int .u8 0, .int .u8 0, .int .u8 0, .int .u8 0, .int .u8 0, .int .u8 0, .int .u8 0, .int .u8 0, .int .u8 0, .int .u8 0, .int .u8 0, .int .u8 0, .int .u8 0, .int .u8 0, .int .u8 0, .int .u8 0, .int .u8 0, .int .u8 0, .int .u8 0, .int .u8 0, .int .u8 0, .int .u8 0, .int .u8 0, .int .u8 0, .int .u8 0, .int .u8 0, .int .u8 0, .int .u8 0] 30)).alloc (.cells #[.int .u8 0, .int .u8 0, .int .u8 0, .int .u8 0, .int .u8 0, .int .u8 0, .int .u8 0, .int .u8 0, .int .u8 0, .int .u8 0, .int .u8 0, .int .u8 0, .int .u8 0, .int .u8 0, .int .u8 0, .int .u8 0, .int .u8 0, .int .u8 0, .int .u8 0, .int .u8 0, .int .u8 0, .int .u8 0, .int .u8 0, .int .u8 0, .int .u8 0, .int .u8 0, .int .u8 0, .int .u8 0, .int .u8 0, .int .u8 0, .int .u8 0, .int .u8 0] 30) = w0 at hk0 ⊢
        refine (HCL.out _ hk0.low).mono ?_
        rintro e w1 ⟨rfl, hb1⟩
        have hk1' := hk0.step hb1
        have hN2 : w.heap.size + 2 < w1.heap.size := by obtain ⟨c, _, k⟩ := hk1'.h2; exact (Array.getElem?_eq_some_iff.1 k).1
        obtain ⟨DR, hDR⟩ : ∃ DR, DR = (bv r).toArray := ⟨_, rfl⟩
        obtain ⟨hdv, hth, hinf, hone⟩ := dig_var w1 r hrd.1 DR hDR
        have HTHR : Bx _ := ⟨hth⟩
        have HDV : Bx _ := ⟨hdv⟩
        have HINF : Bx _ := ⟨hinf⟩
        have HONE : Bx _ := ⟨hone⟩
        have HDR : Bx (DR = (bv r).toArray) := ⟨hDR⟩
        rw [← hDR]
        clear hdv hth hinf hone hDR HCL hb1 hk0
        go_wp2_with (refine wpList_store_mid rfl 30 (.tmp 16) (.tmp 38) rfl w1.heap.size 0 DR rfl rfl ?ht HINF.out HONE.out ?_; (case ht => exact HTHR.out); have hdv := HDV.out; generalize (w1.alloc (.cells #[.int .u8 0, .int .u8 0, .int .u8 0, .int .u8 0, .int .u8 0, .int .u8 0, .int .u8 0, .int .u8 0, .int .u8 0, .int .u8 0, .int .u8 0, .int .u8 0, .int .u8 0, .int .u8 0, .int .u8 0, .int .u8 0, .int .u8 0, .int .u8 0, .int .u8 0, .int .u8 0, .int .u8 0, .int .u8 0, .int .u8 0, .int .u8 0, .int .u8 0, .int .u8 0, .int .u8 0, .int .u8 0, .int .u8 0, .int .u8 0, .int .u8 0, .int .u8 0] 30)).setCells w1.heap.size 0 DR.toList = w2 at hdv ⊢; clear HDV HTHR)
        have hk2' := hk1'.step hdv.low
        have hkr : RGs w1.heap.size r old w w2 := ⟨hk2'.low, hk2'.od, hdv.row, hk2'.h1, hk2'.h2, by omega, by omega, hk2'.tab⟩
        have hk : RGs w1.heap.size r old w w2.drew := hkr.drewN 1
        clear hkr hk1' hk2' hdv
        generalize w1.heap.size = VR at hk hN2 ⊢
        refine wp_region_held_drew (S := fun W => RGs VR r old w W) (by kernel_rfl) hk (fun _ => ?_)
        refine wpAnyH_take (i := 0) (oi := { dst := some 42, op := Op.load 30 (Operand.tmp 16), type := 30, pos := "merkle.go:148", after := #[], guard := none }) (v := .agg (bv r).toArray) rfl (by kernel_rfl) (by kernel_rfl) (by kernel_rfl) (fun _ _ _ h => h) (yieldsIf_load_mid (by rfl) 30 (.tmp 16) rfl VR 0 rfl (bv r) _ (fun W h => range_row h.rr) Tryd.underlying30 rfl hir) hk ?_
        simp only [Act.put, List.setIfInBounds_toArray, List.set_cons_zero, List.set_cons_succ]
        refine wpAnyH_take (i := 1) (oi := { dst := some 43, op := Op.load 30 (Operand.tmp 16), type := 30, pos := "merkle.go:148", after := #[{ on := 5, ground := Ground.gcOnly Departure.lateStores }], guard := none }) (v := .agg (bv r).toArray) rfl (by kernel_rfl) (by kernel_rfl) (by kernel_rfl) (fun _ _ _ h => h) (yieldsIf_load_mid (by rfl) 30 (.tmp 16) rfl VR 0 rfl (bv r) _ (fun W h => range_row h.rr) Tryd.underlying30 rfl hir) hk ?_
        simp only [Act.put, List.setIfInBounds_toArray, List.set_cons_zero, List.set_cons_succ]
        refine wpAnyH_take (i := 2) (oi := { dst := some 44, op := Op.move (Operand.tmp 15), type := 60, pos := "merkle.go:148", after := #[], guard := none }) (v := ?vrg71) rfl (by kernel_rfl) (by kernel_rfl) (by kernel_rfl) (fun _ _ _ h => h) (Or.inl ⟨by rfl, ?yrg71⟩) hk ?rrg71
        case yrg71 => (intro w hSw; (try dsimp only at hSw); go_simp; first | done | with_reducible rfl)
        simp only [Act.put, List.setIfInBounds_toArray, List.set_cons_zero, List.set_cons_succ]
        refine wpAnyH_take (i := 3) (oi := { dst := some 45, op := Op.call { callee := Callee.builtin Builtin.len, args := #[Operand.tmp 44], argTypes := #[60] }, type := 3, pos := "merkle.go:148", after := #[{ on := 2, ground := Ground.data }], guard := none }) (v := ?vrg72) rfl (by kernel_rfl) (by kernel_rfl) (by kernel_rfl) (fun _ _ _ h => h) (Or.inl ⟨by rfl, ?yrg72⟩) hk ?rrg72
        case yrg72 => (intro w hSw; (try dsimp only at hSw); go_simp; first | done | with_reducible rfl)
        simp only [Act.put, List.setIfInBounds_toArray, List.set_cons_zero, List.set_cons_succ]
        refine wpAnyH_take (i := 4) (oi := { dst := some 46, op := Op.binOp BinOp.eql 3 (Operand.tmp 45) (Operand.const (Value.int IntKind.i64 0)) 3, type := 4, pos := "merkle.go:148", after := #[{ on := 3, ground := Ground.data }, { on := 6, ground := Ground.gcOnly Departure.lateStores }], guard := none }) (v := ?vrg73) rfl (by kernel_rfl) (by kernel_rfl) (by kernel_rfl) (fun _ _ _ h => h) (Or.inl ⟨by rfl, ?yrg73⟩) hk ?rrg73
        case yrg73 => (intro w hSw; (try dsimp only at hSw); go_simp; first | done | with_reducible rfl)
        simp only [Act.put, List.setIfInBounds_toArray, List.set_cons_zero, List.set_cons_succ]
        refine wpAnyH_ready (rs := [5]) (by decide +kernel) (by simp) ?_
        refine AllReadyH.cons (o := { dst := none, op := Op.store 30 (Operand.tmp 12) (Operand.tmp 42), type := 0, pos := "merkle.go:148", after := #[{ on := 0, ground := Ground.data }, { on := 0, ground := Ground.phase }, { on := 1, ground := Ground.textOnly Departure.lateStores }, { on := 2, ground := Ground.textOnly Departure.lateStores }, { on := 3, ground := Ground.textOnly Departure.lateStoresUnsure }, { on := 4, ground := Ground.textOnly Departure.lateStores }], guard := none }) rfl (fun K hK => ?_) AllReadyH.nil
        rw [if_pos (by rfl)]
        refine wp_store_mid 30 (.tmp 12) (.tmp 42) rfl (w.heap.size + 1) 0 (bv r).toArray rfl rfl ?htrg74 HIr.out HOr.out ?_
        case htrg74 => exact hk.there1 (hrd.1)
        obtain ⟨hk2, hv1⟩ := hk.put1 hpos (hrd.1)
        replace hk := hk2
        clear hk2
        simp only [Act.put]
        refine hK.out _ _ hk (fun _ => ?_)
        clear hK K
        try simp only [Act.put, List.setIfInBounds_toArray, List.set_cons_zero, List.set_cons_succ]
        refine wpAnyH_ready (rs := [6]) (by decide +kernel) (by simp) ?_
        refine AllReadyH.cons (o := { dst := none, op := Op.store 30 (Operand.tmp 13) (Operand.tmp 43), type := 0, pos := "merkle.go:148", after := #[{ on := 1, ground := Ground.data }, { on := 5, ground := Ground.chain }, { on := 0, ground := Ground.phase }, { on := 1, ground := Ground.phase }, { on := 2, ground := Ground.textOnly Departure.lateStores }, { on := 3, ground := Ground.textOnly Departure.lateStoresUnsure }, { on := 4, ground := Ground.textOnly Departure.lateStores }, { on := 5, ground := Ground.phase }], guard := none }) rfl (fun K hK => ?_) AllReadyH.nil
        rw [if_pos (by rfl)]
        refine wp_store_mid 30 (.tmp 13) (.tmp 43) rfl (w.heap.size + 2) 0 (bv r).toArray rfl rfl ?htrg75 HIr.out HOr.out ?_
        case htrg75 => exact hk.there2 (hrd.1)
        replace hv1 := RGs.keep1 hv1 (bv r).toArray.toList
        obtain ⟨hk2, hv2⟩ := hk.put2 hpos (hrd.1)
        replace hk := hk2
        clear hk2
        simp only [Act.put]
        refine hK.out _ _ hk (fun _ => ?_)
        clear hK K
        try simp only [Act.put, List.setIfInBounds_toArray, List.set_cons_zero, List.set_cons_succ]
        refine wpAnyH_take (i := 7) (oi := { dst := some 14, op := Op.assign (Operand.tmp 46), type := 4, pos := "merkle.go:148", after := #[{ on := 4, ground := Ground.data }, { on := 6, ground := Ground.chain }, { on := 0, ground := Ground.phase }, { on := 1, ground := Ground.phase }, { on := 2, ground := Ground.phase }, { on := 3, ground := Ground.phase }, { on := 4, ground := Ground.phase }, { on := 5, ground := Ground.phase }, { on := 6, ground := Ground.phase }], guard := none }) (v := ?vrg76) rfl (by kernel_rfl) (by kernel_rfl) (by kernel_rfl) (fun _ _ _ h => h) (Or.inl ⟨by rfl, ?yrg76⟩) hk ?rrg76
        case yrg76 => (intro w hSw; (try dsimp only at hSw); go_simp; first | done | with_reducible rfl)
        simp only [Act.put, List.setIfInBounds_toArray, List.set_cons_zero, List.set_cons_succ]
        refine wpAnyH_done (by decide +kernel) ?_ _
        have hlow := hk.low
        clear hk
        go_wp2
        exact bodyPost_ret (v := .tuple #[.agg (bv r).toArray, .agg (bv r).toArray, .bool ok]) (results_cct rfl _ _ (w.heap.size + 1) (w.heap.size + 2) (bv r).toArray (bv r).toArray _ rfl rfl rfl hv1 HIr.out hv2 HIr.out) rfl ⟨r, r, HRES.out, hrd, hrd, HGR.out, hlow⟩
  · have q1 : ((m : Int) == (n : Int)) = false := by simp; omega
    by_cases h0 : len = 0
    · have e0 : ((len : Int) == 0) = true := by simp; omega
      have HNE : Bx (P.length = need b (gstepsL n m) → False) := ⟨fun h => by
          have h1 : 1 ≤ need b (gstepsL n m) := by
            by_cases hmk : m ≤ splitN n
            · rw [gsteps_left h1m (by omega) hmk, need_left]; omega
            · rw [gsteps_right (by omega) hmk, need_right]; omega
          omega⟩
      have HRES : Bx (Ending.returned (.tuple #[.agg (bv z0).toArray, .agg (bv z0).toArray, .bool false]) = .returned (.tuple #[.agg (bv z0).toArray, .agg (bv z0).toArray, .bool (decide (P.length = need b (gstepsL n m)))])) := ⟨by rw [decide_eq_false HNE.out]⟩
      have hz0d := z0_dg
      obtain ⟨HIz, HOz, _⟩ := dgi z0_dg.1
      obtain ⟨hp1, hv1⟩ := HRG0.out.put1 hpos hz0d.1
      have HT1 : Bx _ := ⟨HRG0.out.there1 hz0d.1⟩
      have HT2 : Bx _ := ⟨hp1.there2 hz0d.1⟩
      obtain ⟨hp2, hv2⟩ := hp1.put2 hpos hz0d.1
      have hv1' := RGs.keep1 hv1 (bv z0).toArray.toList
      have HV1 : Bx _ := ⟨hv1'⟩
      have HV2 : Bx _ := ⟨hv2⟩
      have HLW : Bx _ := ⟨hp2.low⟩
      clear hp1 hp2 hv1 hv2 hv1' HRG0 ih hP hlen hb0
      go_enter Tryd.func61, Tryd.ntmps61
      go_wp2_with (first
        | (refine wpList_store_mid rfl 30 (.tmp 12) (.tmp 32) rfl (w.heap.size + 1) 0 (bv z0).toArray rfl z0_eval ?ht HIz.out HOz.out ?_; (case ht => exact HT1.out))
        | (refine wpList_store_mid rfl 30 (.tmp 13) (.tmp 33) rfl (w.heap.size + 1 + 1) 0 (bv z0).toArray rfl z0_eval ?ht HIz.out HOz.out ?_; (case ht => exact HT2.out)))
      exact bodyPost_ret (v := .tuple #[.agg (bv z0).toArray, .agg (bv z0).toArray, .bool false]) (results_cct rfl _ _ (w.heap.size + 1) (w.heap.size + 2) (bv z0).toArray (bv z0).toArray _ rfl rfl rfl HV1.out HIz.out HV2.out HIz.out) rfl ⟨z0, z0, HRES.out, z0_dg, z0_dg, fun h => (HNE.out h).elim, HLW.out⟩
    · have hk1 := splitN_pos (n := n) (by omega)
      have hk2 := splitN_lt (n := n) (by omega)
      have HSP : Bx (∀ W, Calls Tryd.prog 84 #[.int .i64 (n : Int)] W fun e w' => e = .returned (.int .i64 (splitN n : Int)) ∧ W = w') := ⟨fun W => split_any (n : Int) W (by omega)⟩
      have e0 : ((len : Int) == 0) = false := by simp; omega
      have HPS : Bx (P = P.take (len - 1) ++ [P.getD (len - 1) []]) := ⟨last_split P len hlen (by omega)⟩
      have hrd := hP.dig.getD (len - 1) (by omega)
      have HCL : Bx (∀ W, Below w.heap.size w W → Calls Tryd.prog 85 #[.slice a len cap] W fun e w' => e = .returned (.tuple #[.slice a (len - 1) cap, .agg (bv (P.getD (len - 1) [])).toArray]) ∧ Below W.heap.size W w') := ⟨fun W hW => cutlast_any a len cap P W (hP.below hW) (by omega)⟩
      by_cases hmk : m ≤ splitN n
      · obtain ⟨S', hS'⟩ : ∃ S', S' = gstepsL (splitN n) m := ⟨_, rfl⟩
        have HSL : Bx (gstepsL n m = false :: S') := ⟨by rw [hS']; exact gsteps_left h1m (by omega) hmk⟩
        have HI1 : Bx (∀ W, Below w.heap.size w W → Calls Tryd.prog 61 #[.agg (bv old).toArray, .int .i64 m, .int .i64 (splitN n : Int), .bool b, .slice a (len - 1) cap, .int .i64 x] W fun e w' => ∃ f g, e = .returned (.tuple #[.agg (bv f).toArray, .agg (bv g).toArray, .bool (decide ((P.take (len - 1)).length = need b S'))]) ∧ Dg f ∧ Dg g ∧ ((P.take (len - 1)).length = need b S' → (f, g) = gres x b S' (P.take (len - 1)) old) ∧ Below W.heap.size W w') :=
          ⟨fun W hW => by rw [hS']; exact ih (splitN n) hk2 m b old a (len - 1) cap (P.take (len - 1)) x W h1m hmk (by omega) holdd ((hP.below hW).take _ (by omega)) (htab.below hW)⟩
        have hki : (m : Int) ≤ (splitN n : Int) := by omega
        generalize P.getD (len - 1) [] = r at HPS hrd HCL
        obtain ⟨HIr, HOr, hir⟩ := dgi hrd.1
        clear hS' ih hP hmk hmn2 hlen
        generalize splitN n = k at hk1 hk2 HSP HI1 hki
        generalize P.take (len - 1) = PT at HPS HI1
        go_enter Tryd.func61, Tryd.ntmps61
        go_wp2_with fail
        have hk0 := HRG0.out
        clear HRG0 hb0
        generalize ((w.alloc (.cells (bv old).toArray 30)).alloc (.cells #[.int .u8 0, .int .u8 0, .int .u8 0, .int .u8 0, .int .u8 0, .int .u8 0, .int .u8 0, .int .u8 0, .int .u8 0, .int .u8 0, .int .u8 0, .int .u8 0, .int .u8 0, .int .u8 0, .int .u8 0, .int .u8 0, .int .u8 0, .int .u8 0, .int .u8 0, .int .u8 0, .int .u8 0, .int .u8 0, .int .u8 0, .int .u8 0, .int .u8 0, .int .u8 0, .int .u8 0, .int .u8 0, .int .u8 0, .int .u8 0, .int .u8 0, .int .u8 0] 30)).alloc (.cells #[.int .u8 0, .int .u8 0, .int .u8 0, .int .u8 0, .int .u8 0, .int .u8 0, .int .u8 0, .int .u8 0, .int .u8 0, .int .u8 0, .int .u8 0, .int .u8 0, .int .u8 0, .int .u8 0, .int .u8 0, .int .u8 0, .int .u8 0, .int .u8 0, .int .u8 0, .int .u8 0, .int .u8 0, .int .u8 0, .int .u8 0, .int .u8 0, .int .u8 0, .int .u8 0, .int .u8 0, .int .u8 0, .int .u8 0, .int .u8 0, .int .u8 0, .int .u8 0] 30) = w0 at hk0 ⊢
        refine (HCL.out _ hk0.low).mono ?_
        rintro e w1 ⟨rfl, hb1⟩
        have hk1' := hk0.step hb1
        have hN2 : w.heap.size + 2 < w1.heap.size := by obtain ⟨c, _, k⟩ := hk1'.h2; exact (Array.getElem?_eq_some_iff.1 k).1
        obtain ⟨DR, hDR⟩ : ∃ DR, DR = (bv r).toArray := ⟨_, rfl⟩
        obtain ⟨hdv, hth, hinf, hone⟩ := dig_var w1 r hrd.1 DR hDR
        have HTHR : Bx _ := ⟨hth⟩
        have HDV : Bx _ := ⟨hdv⟩
        have HINF : Bx _ := ⟨hinf⟩
        have HONE : Bx _ := ⟨hone⟩
        have HDR : Bx (DR = (bv r).toArray) := ⟨hDR⟩
        rw [← hDR]
        clear hdv hth hinf hone hDR HCL hb1 hk0
        go_wp2_with (refine wpList_store_mid rfl 30 (.tmp 16) (.tmp 38) rfl w1.heap.size 0 DR rfl rfl ?ht HINF.out HONE.out ?_; (case ht => exact HTHR.out); have hdv := HDV.out; generalize (w1.alloc (.cells #[.int .u8 0, .int .u8 0, .int .u8 0, .int .u8 0, .int .u8 0, .int .u8 0, .int .u8 0, .int .u8 0, .int .u8 0, .int .u8 0, .int .u8 0, .int .u8 0, .int .u8 0, .int .u8 0, .int .u8 0, .int .u8 0, .int .u8 0, .int .u8 0, .int .u8 0, .int .u8 0, .int .u8 0, .int .u8 0, .int .u8 0, .int .u8 0, .int .u8 0, .int .u8 0, .int .u8 0, .int .u8 0, .int .u8 0, .int .u8 0, .int .u8 0, .int .u8 0] 30)).setCells w1.heap.size 0 DR.toList = w2 at hdv ⊢; clear HDV HTHR)
        have hk2' := hk1'.step hdv.low
        have hkr : RGs w1.heap.size r old w w2 := ⟨hk2'.low, hk2'.od, hdv.row, hk2'.h1, hk2'.h2, by omega, by omega, hk2'.tab⟩
        refine (HSP.out _).mono ?_
        rintro e w' ⟨rfl, rfl⟩
        clear HSP hk1' hk2' hdv
        have HOD : Bx _ := ⟨hkr.od⟩
        generalize w1.heap.size = VR at hkr hN2 ⊢
        go_wp2_with (refine wpList_load_row rfl 30 (.tmp 6) rfl w.heap.size rfl 30 (bv old).toArray (0, 0) _ HOD.out Tryd.underlying30 rfl HIold.out ?_)
        refine (HI1.out _ hkr.low).mono ?_
        rintro e w3 ⟨f, g, rfl, hfd, hgd, hup, hb3⟩
        have hk3 := hkr.step hb3
        obtain ⟨ok, hok⟩ : ∃ ok, ok = decide (PT.length = need b S') := ⟨_, rfl⟩
        rw [← hok]
        have HOK : Bx (ok = decide (PT.length = need b S')) := ⟨hok⟩
        have HUP : Bx (PT.length = need b S' → (f, g) = gres x b S' PT old) := ⟨hup⟩
        clear hup hok HI1 hb3 hkr HOD
        obtain ⟨HIf, HOf, hif⟩ := dgi hfd.1
        obtain ⟨HIg, HOg, hig⟩ := dgi hgd.1
        obtain ⟨hp1, hv1⟩ := hk3.put1 hpos hfd.1
        have HT1 : Bx _ := ⟨hk3.there1 hfd.1⟩
        have HT2 : Bx _ := ⟨hp1.there2 hgd.1⟩
        obtain ⟨hp2, hv2⟩ := hp1.put2 hpos hgd.1
        have hv1' := RGs.keep1 hv1 (bv g).toArray.toList
        have HV1 : Bx _ := ⟨hv1'⟩
        have HV2 : Bx _ := ⟨hv2⟩
        have HP2 : Bx _ := ⟨hp2⟩
        clear hp1 hp2 hv1 hv2 hv1' hk3
        obtain ⟨Z, hZ⟩ : ∃ Z, Z = nodeL g r x := ⟨_, rfl⟩
        have hZd : Dg Z := by rw [hZ]; exact nodeL_dg _ _ _
        have HND : Bx (∀ W, RGs VR r old w W → Calls Tryd.prog 86 #[.agg (bv g).toArray, .agg (bv r).toArray, .int .i64 x] W fun e w' => e = .returned (.agg (bv Z).toArray) ∧ Below W.heap.size W w') := ⟨fun W h => by rw [hZ]; exact node_any g r x W hgd hrd h.tab⟩
        have HGR : Bx (decide (P.length = need b (gstepsL n m)) = ok ∧ (P.length = need b (gstepsL n m) → (f, Z) = gres x b (gstepsL n m) P old)) := ⟨by
          rw [HOK.out, HSL.out, HPS.out, need_left, List.length_append, List.length_singleton]
          refine ⟨by congr 1; rw [eq_iff_iff]; omega, fun h => ?_⟩
          have h' : PT.length = need b S' := by omega
          rw [gres_left x b S' PT r old h', ← HUP.out h', hZ]⟩
        have HRES : Bx (Ending.returned (.tuple #[.agg (bv f).toArray, .agg (bv Z).toArray, .bool ok]) = .returned (.tuple #[.agg (bv f).toArray, .agg (bv Z).toArray, .bool (decide (P.length = need b (gstepsL n m)))])) := ⟨by rw [HGR.out.1]⟩
        replace HGR : Bx (P.length = need b (gstepsL n m) → (f, Z) = gres x b (gstepsL n m) P old) := ⟨HGR.out.2⟩
        obtain ⟨HIZ, HOZ, _⟩ := dgi hZd.1
        clear hZ HUP HOK HPS HSL
        go_wp2_with (first
          | (refine wpList_store_mid rfl 30 (.tmp 12) (.tmp 60) rfl (w.heap.size + 1) 0 (bv f).toArray rfl rfl ?ht HIf.out HOf.out ?_; (case ht => exact HT1.out))
          | (refine wpList_store_mid rfl 30 (.tmp 13) (.tmp 61) rfl (w.heap.size + 1 + 1) 0 (bv g).toArray rfl rfl ?ht HIg.out HOg.out ?_; (case ht => exact HT2.out)))
        have hv1a := HV1.out
        have hv2a := HV2.out
        have hka := HP2.out
        clear HV1 HV2 HP2 HT1 HT2
        generalize (w3.setCells (w.heap.size + 1) 0 (bv f).toArray.toList).setCells (w.heap.size + 1 + 1) 0 (bv g).toArray.toList = w5 at hv1a hv2a hka ⊢
        have hk : RGs VR r old w w5.drew := hka.drewN 1
        have hv1 : w5.drew.heap[w.heap.size + 1]? = some (.cells (bv f).toArray 30 (0, 0)) := hv1a
        have hv2 : w5.drew.heap[w.heap.size + 2]? = some (.cells (bv g).toArray 30 (0, 0)) := hv2a
        clear hka hv1a hv2a
        refine wp_region_held_drew (S := fun W => RGs VR r old w W) (by kernel_rfl) hk (fun _ => ?_)
        refine wpAnyH_take (i := 2) (oi := { dst := some 65, op := Op.load 30 (Operand.tmp 16), type := 30, pos := "merkle.go:153", after := #[], guard := none }) (v := .agg (bv r).toArray) rfl (by kernel_rfl) (by kernel_rfl) (by kernel_rfl) (fun _ _ _ h => h) (yieldsIf_load_mid (by rfl) 30 (.tmp 16) rfl VR 0 rfl (bv r) _ (fun W h => range_row h.rr) Tryd.underlying30 rfl hir) hk ?_
        simp only [Act.put, List.setIfInBounds_toArray, List.set_cons_zero, List.set_cons_succ]
        refine wpAnyH_take (i := 3) (oi := { dst := some 66, op := Op.move (Operand.tmp 5), type := 3, pos := "merkle.go:153", after := #[], guard := none }) (v := ?vrg111) rfl (by kernel_rfl) (by kernel_rfl) (by kernel_rfl) (fun _ _ _ h => h) (Or.inl ⟨by rfl, ?yrg111⟩) hk ?rrg111
        case yrg111 => (intro w hSw; (try dsimp only at hSw); go_simp; first | done | with_reducible rfl)
        simp only [Act.put, List.setIfInBounds_toArray, List.set_cons_zero, List.set_cons_succ]
        refine wpAnyH_take (i := 5) (oi := { dst := some 68, op := Op.move (Operand.tmp 14), type := 4, pos := "merkle.go:153", after := #[{ on := 7, ground := Ground.gcOnly Departure.lateStores }], guard := none }) (v := ?vrg112) rfl (by kernel_rfl) (by kernel_rfl) (by kernel_rfl) (fun _ _ _ h => h) (Or.inl ⟨by rfl, ?yrg112⟩) hk ?rrg112
        case yrg112 => (intro w hSw; (try dsimp only at hSw); go_simp; first | done | with_reducible rfl)
        simp only [Act.put, List.setIfInBounds_toArray, List.set_cons_zero, List.set_cons_succ]
        refine wpAnyH_ready (rs := [0, 1]) (by decide +kernel) (by simp) ?_
        refine (AllReadyH.cons (o := { dst := some 63, op := Op.load 30 (Operand.tmp 12), type := 30, pos := "merkle.go:153", after := #[], guard := none }) rfl (fun K hK => ?_) (AllReadyH.cons (o := { dst := some 64, op := Op.load 30 (Operand.tmp 13), type := 30, pos := "merkle.go:153", after := #[], guard := none }) rfl (fun K hK => ?_) AllReadyH.nil))
        · rw [if_pos (by rfl)]
          refine wp_load_mid 30 (.tmp 12) rfl (w.heap.size + 1) 0 rfl (bv f) _ (range_row hv1) Tryd.underlying30 rfl hif ?_
          simp only [Act.put, List.setIfInBounds_toArray, List.set_cons_zero, List.set_cons_succ]
          refine hK.out _ _ hk (fun _ => ?_)
          clear hK K
          try simp only [Act.put, List.setIfInBounds_toArray, List.set_cons_zero, List.set_cons_succ]
          refine wpAnyH_ready (rs := [1]) (by decide +kernel) (by simp) ?_
          refine AllReadyH.cons (o := { dst := some 64, op := Op.load 30 (Operand.tmp 13), type := 30, pos := "merkle.go:153", after := #[], guard := none }) rfl (fun K hK => ?_) AllReadyH.nil
          rw [if_pos (by rfl)]
          refine wp_load_mid 30 (.tmp 13) rfl (w.heap.size + 2) 0 rfl (bv g) _ (range_row hv2) Tryd.underlying30 rfl hig ?_
          simp only [Act.put, List.setIfInBounds_toArray, List.set_cons_zero, List.set_cons_succ]
          refine hK.out _ _ hk (fun _ => ?_)
          clear hK K
          try simp only [Act.put, List.setIfInBounds_toArray, List.set_cons_zero, List.set_cons_succ]
          refine wpAnyH_ready (rs := [4]) (by decide +kernel) (by simp) ?_
          refine AllReadyH.cons (o := { dst := some 67, op := Op.call { callee := Callee.value (Operand.func 86), args := #[Operand.tmp 64, Operand.tmp 65, Operand.tmp 66], argTypes := #[30, 30, 3] }, type := 30, pos := "merkle.go:153", after := #[{ on := 1, ground := Ground.data }, { on := 2, ground := Ground.data }, { on := 3, ground := Ground.data }], guard := none }) rfl (fun K hK => ?_) AllReadyH.nil
          go_simp
          refine (HND.out _ hk).mono ?_
          rintro e1 w4 ⟨rfl, hb1⟩
          replace hv1 := (hb1.block _ (Array.getElem?_eq_some_iff.1 hv1).1).trans hv1
          replace hv2 := (hb1.block _ (Array.getElem?_eq_some_iff.1 hv2).1).trans hv2
          replace hk := hk.step hb1
          clear hb1
          refine hK.out _ _ hk (fun _ => ?_)
          clear hK K
          try simp only [Act.put, List.setIfInBounds_toArray, List.set_cons_zero, List.set_cons_succ]
          refine wpAnyH_ready (rs := [6]) (by decide +kernel) (by simp) ?_
          refine AllReadyH.cons (o := { dst := none, op := Op.store 30 (Operand.tmp 12) (Operand.tmp 63), type := 0, pos := "merkle.go:153", after := #[{ on := 0, ground := Ground.data }, { on := 4, ground := Ground.chain }, { on := 0, ground := Ground.phase }, { on := 1, ground := Ground.textOnly Departure.lateStores }, { on := 2, ground := Ground.textOnly Departure.lateStores }, { on := 3, ground := Ground.textOnly Departure.lateStores }, { on := 4, ground := Ground.textOnly Departure.lateStoresUnsure }, { on := 5, ground := Ground.textOnly Departure.lateStores }], guard := none }) rfl (fun K hK => ?_) AllReadyH.nil
          rw [if_pos (by rfl)]
          refine wp_store_mid 30 (.tmp 12) (.tmp 63) rfl (w.heap.size + 1) 0 (bv f).toArray rfl rfl ?htrg115 HIf.out HOf.out ?_
          case htrg115 => exact hk.there1 (hfd.1)
          obtain ⟨hk2, hv1⟩ := hk.put1 hpos (hfd.1)
          replace hk := hk2
          clear hk2
          simp only [Act.put]
          refine hK.out _ _ hk (fun _ => ?_)
          clear hK K
          try simp only [Act.put, List.setIfInBounds_toArray, List.set_cons_zero, List.set_cons_succ]
          refine wpAnyH_ready (rs := [7]) (by decide +kernel) (by simp) ?_
          refine AllReadyH.cons (o := { dst := none, op := Op.store 30 (Operand.tmp 13) (Operand.tmp 67), type := 0, pos := "merkle.go:153", after := #[{ on := 4, ground := Ground.data }, { on := 6, ground := Ground.chain }, { on := 0, ground := Ground.phase }, { on := 1, ground := Ground.phase }, { on := 2, ground := Ground.phase }, { on := 3, ground := Ground.phase }, { on := 4, ground := Ground.phase }, { on := 5, ground := Ground.textOnly Departure.lateStores }, { on := 6, ground := Ground.phase }], guard := none }) rfl (fun K hK => ?_) AllReadyH.nil
          rw [if_pos (by rfl)]
          refine wp_store_mid 30 (.tmp 13) (.tmp 67) rfl (w.heap.size + 2) 0 (bv Z).toArray rfl rfl ?htrg116 HIZ.out HOZ.out ?_
          case htrg116 => exact hk.there2 (hZd.1)
          replace hv1 := RGs.keep1 hv1 (bv Z).toArray.toList
          obtain ⟨hk2, hv2⟩ := hk.put2 hpos (hZd.1)
          replace hk := hk2
          clear hk2
          simp only [Act.put]
          refine hK.out _ _ hk (fun _ => ?_)
          clear hK K
          try simp only [Act.put, List.setIfInBounds_toArray, List.set_cons_zero, List.set_cons_succ]
          refine wpAnyH_take (i := 8) (oi := { dst := some 14, op := Op.assign (Operand.tmp 68), type := 4, pos := "merkle.go:153", after := #[{ on := 5, ground := Ground.data }, { on := 7, ground := Ground.chain }, { on := 0, ground := Ground.phase }, { on := 1, ground := Ground.phase }, { on := 2, ground := Ground.phase }, { on := 3, ground := Ground.phase }, { on := 4, ground := Ground.phase }, { on := 5, ground := Ground.phase }, { on := 6, ground := Ground.phase }, { on := 7, ground := Ground.phase }], guard := none }) (v := ?vrg117) rfl (by kernel_rfl) (by kernel_rfl) (by kernel_rfl) (fun _ _ _ h => h) (Or.inl ⟨by rfl, ?yrg117⟩) hk ?rrg117
          case yrg117 => (intro w hSw; (try dsimp only at hSw); go_simp; first | done | with_reducible rfl)
          simp only [Act.put, List.setIfInBounds_toArray, List.set_cons_zero, List.set_cons_succ]
          refine wpAnyH_done (by decide +kernel) ?_ _
          have hlow := hk.low
          clear hk
          go_wp2
          exact bodyPost_ret (v := .tuple #[.agg (bv f).toArray, .agg (bv Z).toArray, .bool ok]) (results_cct rfl _ _ (w.heap.size + 1) (w.heap.size + 2) (bv f).toArray (bv Z).toArray _ rfl rfl rfl hv1 HIf.out hv2 HIZ.out) rfl ⟨f, Z, HRES.out, hfd, hZd, HGR.out, hlow⟩
        · rw [if_pos (by rfl)]
          refine wp_load_mid 30 (.tmp 13) rfl (w.heap.size + 2) 0 rfl (bv g) _ (range_row hv2) Tryd.underlying30 rfl hig ?_
          simp only [Act.put, List.setIfInBounds_toArray, List.set_cons_zero, List.set_cons_succ]
          refine hK.out _ _ hk (fun _ => ?_)
          clear hK K
          try simp only [Act.put, List.setIfInBounds_toArray, List.set_cons_zero, List.set_cons_succ]
          refine wpAnyH_ready (rs := [0, 4]) (by decide +kernel) (by simp) ?_
          refine (AllReadyH.cons (o := { dst := some 63, op := Op.load 30 (Operand.tmp 12), type := 30, pos := "merkle.go:153", after := #[], guard := none }) rfl (fun K hK => ?_) (AllReadyH.cons (o := { dst := some 67, op := Op.call { callee := Callee.value (Operand.func 86), args := #[Operand.tmp 64, Operand.tmp 65, Operand.tmp 66], argTypes := #[30, 30, 3] }, type := 30, pos := "merkle.go:153", after := #[{ on := 1, ground := Ground.data }, { on := 2, ground := Ground.data }, { on := 3, ground := Ground.data }], guard := none }) rfl (fun K hK => ?_) AllReadyH.nil))
          · rw [if_pos (by rfl)]
            refine wp_load_mid 30 (.tmp 12) rfl (w.heap.size + 1) 0 rfl (bv f) _ (range_row hv1) Tryd.underlying30 rfl hif ?_
            simp only [Act.put, List.setIfInBounds_toArray, List.set_cons_zero, List.set_cons_succ]
            refine hK.out _ _ hk (fun _ => ?_)
            clear hK K
            try simp only [Act.put, List.setIfInBounds_toArray, List.set_cons_zero, List.set_cons_succ]
            refine wpAnyH_ready (rs := [4]) (by decide +kernel) (by simp) ?_
            refine AllReadyH.cons (o := { dst := some 67, op := Op.call { callee := Callee.value (Operand.func 86), args := #[Operand.tmp 64, Operand.tmp 65, Operand.tmp 66], argTypes := #[30, 30, 3] }, type := 30, pos := "merkle.go:153", after := #[{ on := 1, ground := Ground.data }, { on := 2, ground := Ground.data }, { on := 3, ground := Ground.data }], guard := none }) rfl (fun K hK => ?_) AllReadyH.nil
            go_simp
            refine (HND.out _ hk).mono ?_
            rintro e1 w4 ⟨rfl, hb1⟩
            replace hv1 := (hb1.block _ (Array.getElem?_eq_some_iff.1 hv1).1).trans hv1
            replace hv2 := (hb1.block _ (Array.getElem?_eq_some_iff.1 hv2).1).trans hv2
            replace hk := hk.step hb1
            clear hb1
            refine hK.out _ _ hk (fun _ => ?_)
            clear hK K
            try simp only [Act.put, List.setIfInBounds_toArray, List.set_cons_zero, List.set_cons_succ]
            refine wpAnyH_ready (rs := [6]) (by decide +kernel) (by simp) ?_
            refine AllReadyH.cons (o := { dst := none, op := Op.store 30 (Operand.tmp 12) (Operand.tmp 63), type := 0, pos := "merkle.go:153", after := #[{ on := 0, ground := Ground.data }, { on := 4, ground := Ground.chain }, { on := 0, ground := Ground.phase }, { on := 1, ground := Ground.textOnly Departure.lateStores }, { on := 2, ground := Ground.textOnly Departure.lateStores }, { on := 3, ground := Ground.textOnly Departure.lateStores }, { on := 4, ground := Ground.textOnly Departure.lateStoresUnsure }, { on := 5, ground := Ground.textOnly Departure.lateStores }], guard := none }) rfl (fun K hK => ?_) AllReadyH.nil
            rw [if_pos (by rfl)]
            refine wp_store_mid 30 (.tmp 12) (.tmp 63) rfl (w.heap.size + 1) 0 (bv f).toArray rfl rfl ?htrg1110 HIf.out HOf.out ?_
            case htrg1110 => exact hk.there1 (hfd.1)
            obtain ⟨hk2, hv1⟩ := hk.put1 hpos (hfd.1)
            replace hk := hk2
            clear hk2
            simp only [Act.put]
            refine hK.out _ _ hk (fun _ => ?_)
            clear hK K
            try simp only [Act.put, List.setIfInBounds_toArray, List.set_cons_zero, List.set_cons_succ]
            refine wpAnyH_ready (rs := [7]) (by decide +kernel) (by simp) ?_
            refine AllReadyH.cons (o := { dst := none, op := Op.store 30 (Operand.tmp 13) (Operand.tmp 67), type := 0, pos := "merkle.go:153", after := #[{ on := 4, ground := Ground.data }, { on := 6, ground := Ground.chain }, { on := 0, ground := Ground.phase }, { on := 1, ground := Ground.phase }, { on := 2, ground := Ground.phase }, { on := 3, ground := Ground.phase }, { on := 4, ground := Ground.phase }, { on := 5, ground := Ground.textOnly Departure.lateStores }, { on := 6, ground := Ground.phase }], guard := none }) rfl (fun K hK => ?_) AllReadyH.nil
            rw [if_pos (by rfl)]
            refine wp_store_mid 30 (.tmp 13) (.tmp 67) rfl (w.heap.size + 2) 0 (bv Z).toArray rfl rfl ?htrg1111 HIZ.out HOZ.out ?_
            case htrg1111 => exact hk.there2 (hZd.1)
            replace hv1 := RGs.keep1 hv1 (bv Z).toArray.toList
            obtain ⟨hk2, hv2⟩ := hk.put2 hpos (hZd.1)
            replace hk := hk2
            clear hk2
            simp only [Act.put]
            refine hK.out _ _ hk (fun _ => ?_)
            clear hK K
            try simp only [Act.put, List.setIfInBounds_toArray, List.set_cons_zero, List.set_cons_succ]
            refine wpAnyH_take (i := 8) (oi := { dst := some 14, op := Op.assign (Operand.tmp 68), type := 4, pos := "merkle.go:153", after := #[{ on := 5, ground := Ground.data }, { on := 7, ground := Ground.chain }, { on := 0, ground := Ground.phase }, { on := 1, ground := Ground.phase }, { on := 2, ground := Ground.phase }, { on := 3, ground := Ground.phase }, { on := 4, ground := Ground.phase }, { on := 5, ground := Ground.phase }, { on := 6, ground := Ground.phase }, { on := 7, ground := Ground.phase }], guard := none }) (v := ?vrg1112) rfl (by kernel_rfl) (by kernel_rfl) (by kernel_rfl) (fun _ _ _ h => h) (Or.inl ⟨by rfl, ?yrg1112⟩) hk ?rrg1112
            case yrg1112 => (intro w hSw; (try dsimp only at hSw); go_simp; first | done | with_reducible rfl)
            simp only [Act.put, List.setIfInBounds_toArray, List.set_cons_zero, List.set_cons_succ]
            refine wpAnyH_done (by decide +kernel) ?_ _
            have hlow := hk.low
            clear hk
            go_wp2
            exact bodyPost_ret (v := .tuple #[.agg (bv f).toArray, .agg (bv Z).toArray, .bool ok]) (results_cct rfl _ _ (w.heap.size + 1) (w.heap.size + 2) (bv f).toArray (bv Z).toArray _ rfl rfl rfl hv1 HIf.out hv2 HIZ.out) rfl ⟨f, Z, HRES.out, hfd, hZd, HGR.out, hlow⟩
          · go_simp
            refine (HND.out _ hk).mono ?_
            rintro e1 w4 ⟨rfl, hb1⟩
            replace hv1 := (hb1.block _ (Array.getElem?_eq_some_iff.1 hv1).1).trans hv1
            replace hv2 := (hb1.block _ (Array.getElem?_eq_some_iff.1 hv2).1).trans hv2
            replace hk := hk.step hb1
            clear hb1
            refine hK.out _ _ hk (fun _ => ?_)
            clear hK K
            try simp only [Act.put, List.setIfInBounds_toArray, List.set_cons_zero, List.set_cons_succ]
            refine wpAnyH_ready (rs := [0]) (by decide +kernel) (by simp) ?_
            refine AllReadyH.cons (o := { dst := some 63, op := Op.load 30 (Operand.tmp 12), type := 30, pos := "merkle.go:153", after := #[], guard := none }) rfl (fun K hK => ?_) AllReadyH.nil
            rw [if_pos (by rfl)]
            refine wp_load_mid 30 (.tmp 12) rfl (w.heap.size + 1) 0 rfl (bv f) _ (range_row hv1) Tryd.underlying30 rfl hif ?_
            simp only [Act.put, List.setIfInBounds_toArray, List.set_cons_zero, List.set_cons_succ]
            refine hK.out _ _ hk (fun _ => ?_)
            clear hK K
            try simp only [Act.put, List.setIfInBounds_toArray, List.set_cons_zero, List.set_cons_succ]
            refine wpAnyH_ready (rs := [6]) (by decide +kernel) (by simp) ?_
            refine AllReadyH.cons (o := { dst := none, op := Op.store 30 (Operand.tmp 12) (Operand.tmp 63), type := 0, pos := "merkle.go:153", after := #[{ on := 0, ground := Ground.data }, { on := 4, ground := Ground.chain }, { on := 0, ground := Ground.phase }, { on := 1, ground := Ground.textOnly Departure.lateStores }, { on := 2, ground := Ground.textOnly Departure.lateStores }, { on := 3, ground := Ground.textOnly Departure.lateStores }, { on := 4, ground := Ground.textOnly Departure.lateStoresUnsure }, { on := 5, ground := Ground.textOnly Departure.lateStores }], guard := none }) rfl (fun K hK => ?_) AllReadyH.nil
            rw [if_pos (by rfl)]
            refine wp_store_mid 30 (.tmp 12) (.tmp 63) rfl (w.heap.size + 1) 0 (bv f).toArray rfl rfl ?htrg1114 HIf.out HOf.out ?_
            case htrg1114 => exact hk.there1 (hfd.1)
            obtain ⟨hk2, hv1⟩ := hk.put1 hpos (hfd.1)
            replace hk := hk2
            clear hk2
            simp only [Act.put]
            refine hK.out _ _ hk (fun _ => ?_)
            clear hK K
            try simp only [Act.put, List.setIfInBounds_toArray, List.set_cons_zero, List.set_cons_succ]
            refine wpAnyH_ready (rs := [7]) (by decide +kernel) (by simp) ?_
            refine AllReadyH.cons (o := { dst := none, op := Op.store 30 (Operand.tmp 13) (Operand.tmp 67), type := 0, pos := "merkle.go:153", after := #[{ on := 4, ground := Ground.data }, { on := 6, ground := Ground.chain }, { on := 0, ground := Ground.phase }, { on := 1, ground := Ground.phase }, { on := 2, ground := Ground.phase }, { on := 3, ground := Ground.phase }, { on := 4, ground := Ground.phase }, { on := 5, ground := Ground.textOnly Departure.lateStores }, { on := 6, ground := Ground.phase }], guard := none }) rfl (fun K hK => ?_) AllReadyH.nil
            rw [if_pos (by rfl)]
            refine wp_store_mid 30 (.tmp 13) (.tmp 67) rfl (w.heap.size + 2) 0 (bv Z).toArray rfl rfl ?htrg1115 HIZ.out HOZ.out ?_
            case htrg1115 => exact hk.there2 (hZd.1)
            replace hv1 := RGs.keep1 hv1 (bv Z).toArray.toList
            obtain ⟨hk2, hv2⟩ := hk.put2 hpos (hZd.1)
            replace hk := hk2
            clear hk2
            simp only [Act.put]
            refine hK.out _ _ hk (fun _ => ?_)
            clear hK K
            try simp only [Act.put, List.setIfInBounds_toArray, List.set_cons_zero, List.set_cons_succ]
            refine wpAnyH_take (i := 8) (oi := { dst := some 14, op := Op.assign (Operand.tmp 68), type := 4, pos := "merkle.go:153", after := #[{ on := 5, ground := Ground.data }, { on := 7, ground := Ground.chain }, { on := 0, ground := Ground.phase }, { on := 1, ground := Ground.phase }, { on := 2, ground := Ground.phase }, { on := 3, ground := Ground.phase }, { on := 4, ground := Ground.phase }, { on := 5, ground := Ground.phase }, { on := 6, ground := Ground.phase }, { on := 7, ground := Ground.phase }], guard := none }) (v := ?vrg1116) rfl (by kernel_rfl) (by kernel_rfl) (by kernel_rfl) (fun _ _ _ h => h) (Or.inl ⟨by rfl, ?yrg1116⟩) hk ?rrg1116
            case yrg1116 => (intro w hSw; (try dsimp only at hSw); go_simp; first | done | with_reducible rfl)
            simp only [Act.put, List.setIfInBounds_toArray, List.set_cons_zero, List.set_cons_succ]
            refine wpAnyH_done (by decide +kernel) ?_ _
            have hlow := hk.low
            clear hk
            go_wp2
            exact bodyPost_ret (v := .tuple #[.agg (bv f).toArray, .agg (bv Z).toArray, .bool ok]) (results_cct rfl _ _ (w.heap.size + 1) (w.heap.size + 2) (bv f).toArray (bv Z).toArray _ rfl rfl rfl hv1 HIf.out hv2 HIZ.out) rfl ⟨f, Z, HRES.out, hfd, hZd, HGR.out, hlow⟩
      · obtain ⟨S', hS'⟩ : ∃ S', S' = gstepsL (n - splitN n) (m - splitN n) := ⟨_, rfl⟩
        have HSL : Bx (gstepsL n m = true :: S') := ⟨by rw [hS']; exact gsteps_right (by omega) hmk⟩
        have HI2 : Bx (∀ W, Below w.heap.size w W → Calls Tryd.prog 61 #[.agg (bv old).toArray, .int .i64 ((m : Int) - (splitN n : Int)), .int .i64 ((n : Int) - (splitN n : Int)), .bool false, .slice a (len - 1) cap, .int .i64 x] W fun e w' => ∃ f g, e = .returned (.tuple #[.agg (bv f).toArray, .agg (bv g).toArray, .bool (decide ((P.take (len - 1)).length = need false S'))]) ∧ Dg f ∧ Dg g ∧ ((P.take (len - 1)).length = need false S' → (f, g) = gres x false S' (P.take (len - 1)) old) ∧ Below W.heap.size W w') :=
          ⟨fun W hW => by
            have h := ih (n - splitN n) (by omega) (m - splitN n) false old a (len - 1) cap (P.take (len - 1)) x W (by omega) (by omega) (by omega) holdd ((hP.below hW).take _ (by omega)) (htab.below hW)
            rw [show ((m - splitN n : Nat) : Int) = (m : Int) - (splitN n : Int) from by omega, show ((n - splitN n : Nat) : Int) = (n : Int) - (splitN n : Int) from by omega, ← hS'] at h
            exact h⟩
        have hki : ¬ (m : Int) ≤ (splitN n : Int) := by omega
        have hsb1 : IntKind.i64.wrap ((n : Int) - (splitN n : Int)) = (n : Int) - (splitN n : Int) := IntWalk.i64_in _ (by omega)
        have hsb2 : IntKind.i64.wrap ((m : Int) - (splitN n : Int)) = (m : Int) - (splitN n : Int) := IntWalk.i64_in _ (by omega)
        generalize P.getD (len - 1) [] = r at HPS hrd HCL
        obtain ⟨HIr, HOr, hir⟩ := dgi hrd.1
        clear hS' ih hP hmk hmn2 hlen
        generalize splitN n = k at hk1 hk2 HSP HI2 hki hsb1 hsb2
        generalize P.take (len - 1) = PT at HPS HI2
        go_enter Tryd.func61, Tryd.ntmps61
        go_wp2_with fail
        have hk0 := HRG0.out
        clear HRG0 hb0
        generalize ((w.alloc (.cells (bv old).toArray 30)).alloc (.cells #[.int .u8 0, .int .u8 0, .int .u8 0, .int .u8 0, .int .u8 0, .int .u8 0, .int .u8 0, .int .u8 0, .int .u8 0, .int .u8 0, .int .u8 0, .int .u8 0, .int .u8 0, .int .u8 0, .int .u8 0, .int .u8 0, .int .u8 0, .int .u8 0, .int .u8 0, .int .u8 0, .int .u8 0, .int .u8 0, .int .u8 0, .int .u8 0, .int .u8 0, .int .u8 0, .int .u8 0, .int .u8 0, .int .u8 0, .int .u8 0, .int .u8 0, .int .u8 0] 30)).alloc (.cells #[.int .u8 0, .int .u8 0, .int .u8 0, .int .u8 0, .int .u8 0, .int .u8 0, .int .u8 0, .int .u8 0, .int .u8 0, .int .u8 0, .int .u8 0, .int .u8 0, .int .u8 0, .int .u8 0, .int .u8 0, .int .u8 0, .int .u8 0, .int .u8 0, .int .u8 0, .int .u8 0, .int .u8 0, .int .u8 0, .int .u8 0, .int .u8 0, .int .u8 0, .int .u8 0, .int .u8 0, .int .u8 0, .int .u8 0, .int .u8 0, .int .u8 0, .int .u8 0] 30) = w0 at hk0 ⊢
        refine (HCL.out _ hk0.low).mono ?_
        rintro e w1 ⟨rfl, hb1⟩
        have hk1' := hk0.step hb1
        have hN2 : w.heap.size + 2 < w1.heap.size := by obtain ⟨c, _, k⟩ := hk1'.h2; exact (Array.getElem?_eq_some_iff.1 k).1
        obtain ⟨DR, hDR⟩ : ∃ DR, DR = (bv r).toArray := ⟨_, rfl⟩
        obtain ⟨hdv, hth, hinf, hone⟩ := dig_var w1 r hrd.1 DR hDR
        have HTHR : Bx _ := ⟨hth⟩
        have HDV : Bx _ := ⟨hdv⟩
        have HINF : Bx _ := ⟨hinf⟩
        have HONE : Bx _ := ⟨hone⟩
        have HDR : Bx (DR = (bv r).toArray) := ⟨hDR⟩
        rw [← hDR]
        clear hdv hth hinf hone hDR HCL hb1 hk0
        go_wp2_with (refine wpList_store_mid rfl 30 (.tmp 16) (.tmp 38) rfl w1.heap.size 0 DR rfl rfl ?ht HINF.out HONE.out ?_; (case ht => exact HTHR.out); have hdv := HDV.out; generalize (w1.alloc (.cells #[.int .u8 0, .int .u8 0, .int .u8 0, .int .u8 0, .int .u8 0, .int .u8 0, .int .u8 0, .int .u8 0, .int .u8 0, .int .u8 0, .int .u8 0, .int .u8 0, .int .u8 0, .int .u8 0, .int .u8 0, .int .u8 0, .int .u8 0, .int .u8 0, .int .u8 0, .int .u8 0, .int .u8 0, .int .u8 0, .int .u8 0, .int .u8 0, .int .u8 0, .int .u8 0, .int .u8 0, .int .u8 0, .int .u8 0, .int .u8 0, .int .u8 0, .int .u8 0] 30)).setCells w1.heap.size 0 DR.toList = w2 at hdv ⊢; clear HDV HTHR)
        have hk2' := hk1'.step hdv.low
        have hkr : RGs w1.heap.size r old w w2 := ⟨hk2'.low, hk2'.od, hdv.row, hk2'.h1, hk2'.h2, by omega, by omega, hk2'.tab⟩
        refine (HSP.out _).mono ?_
        rintro e w' ⟨rfl, rfl⟩
        clear HSP hk1' hk2' hdv
        have HOD : Bx _ := ⟨hkr.od⟩
        generalize w1.heap.size = VR at hkr hN2 ⊢
        go_wp2_with (refine wpList_load_row rfl 30 (.tmp 6) rfl w.heap.size rfl 30 (bv old).toArray (0, 0) _ HOD.out Tryd.underlying30 rfl HIold.out ?_)
        refine (HI2.out _ hkr.low).mono ?_
        rintro e w3 ⟨f, g, rfl, hfd, hgd, hup, hb3⟩
        have hk3 := hkr.step hb3
        obtain ⟨ok, hok⟩ : ∃ ok, ok = decide (PT.length = need false S') := ⟨_, rfl⟩
        rw [← hok]
        have HOK : Bx (ok = decide (PT.length = need false S')) := ⟨hok⟩
        have HUP : Bx (PT.length = need false S' → (f, g) = gres x false S' PT old) := ⟨hup⟩
        clear hup hok HI2 hb3 hkr HOD
        obtain ⟨HIf, HOf, hif⟩ := dgi hfd.1
        obtain ⟨HIg, HOg, hig⟩ := dgi hgd.1
        obtain ⟨hp1, hv1⟩ := hk3.put1 hpos hfd.1
        have HT1 : Bx _ := ⟨hk3.there1 hfd.1⟩
        have HT2 : Bx _ := ⟨hp1.there2 hgd.1⟩
        obtain ⟨hp2, hv2⟩ := hp1.put2 hpos hgd.1
        have hv1' := RGs.keep1 hv1 (bv g).toArray.toList
        have HV1 : Bx _ := ⟨hv1'⟩
        have HV2 : Bx _ := ⟨hv2⟩
        have HP2 : Bx _ := ⟨hp2⟩
        clear hp1 hp2 hv1 hv2 hv1' hk3
        obtain ⟨Y, hY⟩ : ∃ Y, Y = nodeL r f x := ⟨_, rfl⟩
        have hYd : Dg Y := by rw [hY]; exact nodeL_dg _ _ _
        obtain ⟨Z, hZ⟩ : ∃ Z, Z = nodeL r g x := ⟨_, rfl⟩
        have hZd : Dg Z := by rw [hZ]; exact nodeL_dg _ _ _
        have HN1 : Bx (∀ W, RGs VR r old w W → Calls Tryd.prog 86 #[.agg (bv r).toArray, .agg (bv f).toArray, .int .i64 x] W fun e w' => e = .returned (.agg (bv Y).toArray) ∧ Below W.heap.size W w') := ⟨fun W h => by rw [hY]; exact node_any r f x W hrd hfd h.tab⟩
        have HN2 : Bx (∀ W, RGs VR r old w W → Calls Tryd.prog 86 #[.agg (bv r).toArray, .agg (bv g).toArray, .int .i64 x] W fun e w' => e = .returned (.agg (bv Z).toArray) ∧ Below W.heap.size W w') := ⟨fun W h => by rw [hZ]; exact node_any r g x W hrd hgd h.tab⟩
        have HGR : Bx (decide (P.length = need b (gstepsL n m)) = ok ∧ (P.length = need b (gstepsL n m) → (Y, Z) = gres x b (gstepsL n m) P old)) := ⟨by
          rw [HOK.out, HSL.out, HPS.out, need_right, List.length_append, List.length_singleton]
          refine ⟨by congr 1; rw [eq_iff_iff]; omega, fun h => ?_⟩
          have h' : PT.length = need false S' := by omega
          rw [gres_right x b S' PT r old h', ← HUP.out h', hZ, hY]⟩
        have HRES : Bx (Ending.returned (.tuple #[.agg (bv Y).toArray, .agg (bv Z).toArray, .bool ok]) = .returned (.tuple #[.agg (bv Y).toArray, .agg (bv Z).toArray, .bool (decide (P.length = need b (gstepsL n m)))])) := ⟨by rw [HGR.out.1]⟩
        replace HGR : Bx (P.length = need b (gstepsL n m) → (Y, Z) = gres x b (gstepsL n m) P old) := ⟨HGR.out.2⟩
        obtain ⟨HIY, HOY, _⟩ := dgi hYd.1
        clear hY
        obtain ⟨HIZ, HOZ, _⟩ := dgi hZd.1
        clear hZ HUP HOK HPS HSL
        go_wp2_with (first
          | (refine wpList_store_mid rfl 30 (.tmp 12) (.tmp 80) rfl (w.heap.size + 1) 0 (bv f).toArray rfl rfl ?ht HIf.out HOf.out ?_; (case ht => exact HT1.out))
          | (refine wpList_store_mid rfl 30 (.tmp 13) (.tmp 81) rfl (w.heap.size + 1 + 1) 0 (bv g).toArray rfl rfl ?ht HIg.out HOg.out ?_; (case ht => exact HT2.out)))
        have hv1a := HV1.out
        have hv2a := HV2.out
        have hka := HP2.out
        clear HV1 HV2 HP2 HT1 HT2
        generalize (w3.setCells (w.heap.size + 1) 0 (bv f).toArray.toList).setCells (w.heap.size + 1 + 1) 0 (bv g).toArray.toList = w5 at hv1a hv2a hka ⊢
        have hk : RGs VR r old w w5.drew := hka.drewN 1
        have hv1 : w5.drew.heap[w.heap.size + 1]? = some (.cells (bv f).toArray 30 (0, 0)) := hv1a
        have hv2 : w5.drew.heap[w.heap.size + 2]? = some (.cells (bv g).toArray 30 (0, 0)) := hv2a
        clear hka hv1a hv2a
        refine wp_region_held_drew (S := fun W => RGs VR r old w W) (by kernel_rfl) hk (fun _ => ?_)
        refine wpAnyH_take (i := 0) (oi := { dst := some 83, op := Op.load 30 (Operand.tmp 16), type := 30, pos := "merkle.go:156", after := #[], guard := none }) (v := .agg (bv r).toArray) rfl (by kernel_rfl) (by kernel_rfl) (by kernel_rfl) (fun _ _ _ h => h) (yieldsIf_load_mid (by rfl) 30 (.tmp 16) rfl VR 0 rfl (bv r) _ (fun W h => range_row h.rr) Tryd.underlying30 rfl hir) hk ?_
        simp only [Act.put, List.setIfInBounds_toArray, List.set_cons_zero, List.set_cons_succ]
        refine wpAnyH_take (i := 2) (oi := { dst := some 85, op := Op.move (Operand.tmp 5), type := 3, pos := "merkle.go:156", after := #[], guard := none }) (v := ?vrg131) rfl (by kernel_rfl) (by kernel_rfl) (by kernel_rfl) (fun _ _ _ h => h) (Or.inl ⟨by rfl, ?yrg131⟩) hk ?rrg131
        case yrg131 => (intro w hSw; (try dsimp only at hSw); go_simp; first | done | with_reducible rfl)
        simp only [Act.put, List.setIfInBounds_toArray, List.set_cons_zero, List.set_cons_succ]
        refine wpAnyH_take (i := 4) (oi := { dst := some 87, op := Op.load 30 (Operand.tmp 16), type := 30, pos := "merkle.go:156", after := #[], guard := none }) (v := .agg (bv r).toArray) rfl (by kernel_rfl) (by kernel_rfl) (by kernel_rfl) (fun _ _ _ h => h) (yieldsIf_load_mid (by rfl) 30 (.tmp 16) rfl VR 0 rfl (bv r) _ (fun W h => range_row h.rr) Tryd.underlying30 rfl hir) hk ?_
        simp only [Act.put, List.setIfInBounds_toArray, List.set_cons_zero, List.set_cons_succ]
        refine wpAnyH_take (i := 6) (oi := { dst := some 89, op := Op.move (Operand.tmp 5), type := 3, pos := "merkle.go:156", after := #[], guard := none }) (v := ?vrg132) rfl (by kernel_rfl) (by kernel_rfl) (by kernel_rfl) (fun _ _ _ h => h) (Or.inl ⟨by rfl, ?yrg132⟩) hk ?rrg132
        case yrg132 => (intro w hSw; (try dsimp only at hSw); go_simp; first | done | with_reducible rfl)
        simp only [Act.put, List.setIfInBounds_toArray, List.set_cons_zero, List.set_cons_succ]
        refine wpAnyH_take (i := 8) (oi := { dst := some 91, op := Op.move (Operand.tmp 14), type := 4, pos := "merkle.go:156", after := #[{ on := 10, ground := Ground.gcOnly Departure.lateStores }], guard := none }) (v := ?vrg133) rfl (by kernel_rfl) (by kernel_rfl) (by kernel_rfl) (fun _ _ _ h => h) (Or.inl ⟨by rfl, ?yrg133⟩) hk ?rrg133
        case yrg133 => (intro w hSw; (try dsimp only at hSw); go_simp; first | done | with_reducible rfl)
        simp only [Act.put, List.setIfInBounds_toArray, List.set_cons_zero, List.set_cons_succ]
        refine wpAnyH_ready (rs := [1, 5]) (by decide +kernel) (by simp) ?_
        refine (AllReadyH.cons (o := { dst := some 84, op := Op.load 30 (Operand.tmp 12), type := 30, pos := "merkle.go:156", after := #[], guard := none }) rfl (fun K hK => ?_) (AllReadyH.cons (o := { dst := some 88, op := Op.load 30 (Operand.tmp 13), type := 30, pos := "merkle.go:156", after := #[], guard := none }) rfl (fun K hK => ?_) AllReadyH.nil))
        · rw [if_pos (by rfl)]
          refine wp_load_mid 30 (.tmp 12) rfl (w.heap.size + 1) 0 rfl (bv f) _ (range_row hv1) Tryd.underlying30 rfl hif ?_
          simp only [Act.put, List.setIfInBounds_toArray, List.set_cons_zero, List.set_cons_succ]
          refine hK.out _ _ hk (fun _ => ?_)
          clear hK K
          try simp only [Act.put, List.setIfInBounds_toArray, List.set_cons_zero, List.set_cons_succ]
          refine wpAnyH_ready (rs := [3, 5]) (by decide +kernel) (by simp) ?_
          refine (AllReadyH.cons (o := { dst := some 86, op := Op.call { callee := Callee.value (Operand.func 86), args := #[Operand.tmp 83, Operand.tmp 84, Operand.tmp 85], argTypes := #[30, 30, 3] }, type := 30, pos := "merkle.go:156", after := #[{ on := 0, ground := Ground.data }, { on := 1, ground := Ground.data }, { on := 2, ground := Ground.data }], guard := none }) rfl (fun K hK => ?_) (AllReadyH.cons (o := { dst := some 88, op := Op.load 30 (Operand.tmp 13), type := 30, pos := "merkle.go:156", after := #[], guard := none }) rfl (fun K hK => ?_) AllReadyH.nil))
          · go_simp
            refine (HN1.out _ hk).mono ?_
            rintro e1 w3 ⟨rfl, hb1⟩
            replace hv1 := (hb1.block _ (Array.getElem?_eq_some_iff.1 hv1).1).trans hv1
            replace hv2 := (hb1.block _ (Array.getElem?_eq_some_iff.1 hv2).1).trans hv2
            replace hk := hk.step hb1
            clear hb1
            refine hK.out _ _ hk (fun _ => ?_)
            clear hK K
            try simp only [Act.put, List.setIfInBounds_toArray, List.set_cons_zero, List.set_cons_succ]
            refine wpAnyH_ready (rs := [5]) (by decide +kernel) (by simp) ?_
            refine AllReadyH.cons (o := { dst := some 88, op := Op.load 30 (Operand.tmp 13), type := 30, pos := "merkle.go:156", after := #[], guard := none }) rfl (fun K hK => ?_) AllReadyH.nil
            rw [if_pos (by rfl)]
            refine wp_load_mid 30 (.tmp 13) rfl (w.heap.size + 2) 0 rfl (bv g) _ (range_row hv2) Tryd.underlying30 rfl hig ?_
            simp only [Act.put, List.setIfInBounds_toArray, List.set_cons_zero, List.set_cons_succ]
            refine hK.out _ _ hk (fun _ => ?_)
            clear hK K
            try simp only [Act.put, List.setIfInBounds_toArray, List.set_cons_zero, List.set_cons_succ]
            refine wpAnyH_ready (rs := [7]) (by decide +kernel) (by simp) ?_
            refine AllReadyH.cons (o := { dst := some 90, op := Op.call { callee := Callee.value (Operand.func 86), args := #[Operand.tmp 87, Operand.tmp 88, Operand.tmp 89], argTypes := #[30, 30, 3] }, type := 30, pos := "merkle.go:156", after := #[{ on := 4, ground := Ground.data }, { on := 5, ground := Ground.data }, { on := 6, ground := Ground.data }, { on := 3, ground := Ground.chain }], guard := none }) rfl (fun K hK => ?_) AllReadyH.nil
            go_simp
            refine (HN2.out _ hk).mono ?_
            rintro e1 w7 ⟨rfl, hb1⟩
            replace hv1 := (hb1.block _ (Array.getElem?_eq_some_iff.1 hv1).1).trans hv1
            replace hv2 := (hb1.block _ (Array.getElem?_eq_some_iff.1 hv2).1).trans hv2
            replace hk := hk.step hb1
            clear hb1
            refine hK.out _ _ hk (fun _ => ?_)
            clear hK K
            try simp only [Act.put, List.setIfInBounds_toArray, List.set_cons_zero, List.set_cons_succ]
            refine wpAnyH_ready (rs := [9]) (by decide +kernel) (by simp) ?_
            refine AllReadyH.cons (o := { dst := none, op := Op.store 30 (Operand.tmp 12) (Operand.tmp 86), type := 0, pos := "merkle.go:156", after := #[{ on := 3, ground := Ground.data }, { on := 7, ground := Ground.chain }, { on := 0, ground := Ground.phase }, { on := 1, ground := Ground.phase }, { on := 2, ground := Ground.phase }, { on := 3, ground := Ground.phase }, { on := 4, ground := Ground.textOnly Departure.lateStores }, { on := 5, ground := Ground.textOnly Departure.lateStores }, { on := 6, ground := Ground.textOnly Departure.lateStores }, { on := 7, ground := Ground.textOnly Departure.lateStoresUnsure }, { on := 8, ground := Ground.textOnly Departure.lateStores }], guard := none }) rfl (fun K hK => ?_) AllReadyH.nil
            rw [if_pos (by rfl)]
            refine wp_store_mid 30 (.tmp 12) (.tmp 86) rfl (w.heap.size + 1) 0 (bv Y).toArray rfl rfl ?htrg136 HIY.out HOY.out ?_
            case htrg136 => exact hk.there1 (hYd.1)
            obtain ⟨hk2, hv1⟩ := hk.put1 hpos (hYd.1)
            replace hk := hk2
            clear hk2
            simp only [Act.put]
            refine hK.out _ _ hk (fun _ => ?_)
            clear hK K
            try simp only [Act.put, List.setIfInBounds_toArray, List.set_cons_zero, List.set_cons_succ]
            refine wpAnyH_ready (rs := [10]) (by decide +kernel) (by simp) ?_
            refine AllReadyH.cons (o := { dst := none, op := Op.store 30 (Operand.tmp 13) (Operand.tmp 90), type := 0, pos := "merkle.go:156", after := #[{ on := 7, ground := Ground.data }, { on := 9, ground := Ground.chain }, { on := 0, ground := Ground.phase }, { on := 1, ground := Ground.phase }, { on := 2, ground := Ground.phase }, { on := 3, ground := Ground.phase }, { on := 4, ground := Ground.phase }, { on := 5, ground := Ground.phase }, { on := 6, ground := Ground.phase }, { on := 7, ground := Ground.phase }, { on := 8, ground := Ground.textOnly Departure.lateStores }, { on := 9, ground := Ground.phase }], guard := none }) rfl (fun K hK => ?_) AllReadyH.nil
            rw [if_pos (by rfl)]
            refine wp_store_mid 30 (.tmp 13) (.tmp 90) rfl (w.heap.size + 2) 0 (bv Z).toArray rfl rfl ?htrg137 HIZ.out HOZ.out ?_
            case htrg137 => exact hk.there2 (hZd.1)
            replace hv1 := RGs.keep1 hv1 (bv Z).toArray.toList
            obtain ⟨hk2, hv2⟩ := hk.put2 hpos (hZd.1)
            replace hk := hk2
            clear hk2
            simp only [Act.put]
            refine hK.out _ _ hk (fun _ => ?_)
            clear hK K
            try simp only [Act.put, List.setIfInBounds_toArray, List.set_cons_zero, List.set_cons_succ]
            refine wpAnyH_take (i := 11) (oi := { dst := some 14, op := Op.assign (Operand.tmp 91), type := 4, pos := "merkle.go:156", after := #[{ on := 8, ground := Ground.data }, { on := 10, ground := Ground.chain }, { on := 0, ground := Ground.phase }, { on := 1, ground := Ground.phase }, { on := 2, ground := Ground.phase }, { on := 3, ground := Ground.phase }, { on := 4, ground := Ground.phase }, { on := 5, ground := Ground.phase }, { on := 6, ground := Ground.phase }, { on := 7, ground := Ground.phase }, { on := 8, ground := Ground.phase }, { on := 9, ground := Ground.phase }, { on := 10, ground := Ground.phase }], guard := none }) (v := ?vrg138) rfl (by kernel_rfl) (by kernel_rfl) (by kernel_rfl) (fun _ _ _ h => h) (Or.inl ⟨by rfl, ?yrg138⟩) hk ?rrg138
            case yrg138 => (intro w hSw; (try dsimp only at hSw); go_simp; first | done | with_reducible rfl)
            simp only [Act.put, List.setIfInBounds_toArray, List.set_cons_zero, List.set_cons_succ]
            refine wpAnyH_done (by decide +kernel) ?_ _
            have hlow := hk.low
            clear hk
            go_wp2
            exact bodyPost_ret (v := .tuple #[.agg (bv Y).toArray, .agg (bv Z).toArray, .bool ok]) (results_cct rfl _ _ (w.heap.size + 1) (w.heap.size + 2) (bv Y).toArray (bv Z).toArray _ rfl rfl rfl hv1 HIY.out hv2 HIZ.out) rfl ⟨Y, Z, HRES.out, hYd, hZd, HGR.out, hlow⟩
          · rw [if_pos (by rfl)]
            refine wp_load_mid 30 (.tmp 13) rfl (w.heap.size + 2) 0 rfl (bv g) _ (range_row hv2) Tryd.underlying30 rfl hig ?_
            simp only [Act.put, List.setIfInBounds_toArray, List.set_cons_zero, List.set_cons_succ]
            refine hK.out _ _ hk (fun _ => ?_)
            clear hK K
            try simp only [Act.put, List.setIfInBounds_toArray, List.set_cons_zero, List.set_cons_succ]
            refine wpAnyH_ready (rs := [3]) (by decide +kernel) (by simp) ?_
            refine AllReadyH.cons (o := { dst := some 86, op := Op.call { callee := Callee.value (Operand.func 86), args := #[Operand.tmp 83, Operand.tmp 84, Operand.tmp 85], argTypes := #[30, 30, 3] }, type := 30, pos := "merkle.go:156", after := #[{ on := 0, ground := Ground.data }, { on := 1, ground := Ground.data }, { on := 2, ground := Ground.data }], guard := none }) rfl (fun K hK => ?_) AllReadyH.nil
            go_simp
            refine (HN1.out _ hk).mono ?_
            rintro e1 w3 ⟨rfl, hb1⟩
            replace hv1 := (hb1.block _ (Array.getElem?_eq_some_iff.1 hv1).1).trans hv1
            replace hv2 := (hb1.block _ (Array.getElem?_eq_some_iff.1 hv2).1).trans hv2
            replace hk := hk.step hb1
            clear hb1
            refine hK.out _ _ hk (fun _ => ?_)
            clear hK K
            try simp only [Act.put, List.setIfInBounds_toArray, List.set_cons_zero, List.set_cons_succ]
            refine wpAnyH_ready (rs := [7]) (by decide +kernel) (by simp) ?_
            refine AllReadyH.cons (o := { dst := some 90, op := Op.call { callee := Callee.value (Operand.func 86), args := #[Operand.tmp 87, Operand.tmp 88, Operand.tmp 89], argTypes := #[30, 30, 3] }, type := 30, pos := "merkle.go:156", after := #[{ on := 4, ground := Ground.data }, { on := 5, ground := Ground.data }, { on := 6, ground := Ground.data }, { on := 3, ground := Ground.chain }], guard := none }) rfl (fun K hK => ?_) AllReadyH.nil
            go_simp
            refine (HN2.out _ hk).mono ?_
            rintro e1 w7 ⟨rfl, hb1⟩
            replace hv1 := (hb1.block _ (Array.getElem?_eq_some_iff.1 hv1).1).trans hv1
            replace hv2 := (hb1.block _ (Array.getElem?_eq_some_iff.1 hv2).1).trans hv2
            replace hk := hk.step hb1
            clear hb1
            refine hK.out _ _ hk (fun _ => ?_)
            clear hK K
            try simp only [Act.put, List.setIfInBounds_toArray, List.set_cons_zero, List.set_cons_succ]
            refine wpAnyH_ready (rs := [9]) (by decide +kernel) (by simp) ?_
            refine AllReadyH.cons (o := { dst := none, op := Op.store 30 (Operand.tmp 12) (Operand.tmp 86), type := 0, pos := "merkle.go:156", after := #[{ on := 3, ground := Ground.data }, { on := 7, ground := Ground.chain }, { on := 0, ground := Ground.phase }, { on := 1, ground := Ground.phase }, { on := 2, ground := Ground.phase }, { on := 3, ground := Ground.phase }, { on := 4, ground := Ground.textOnly Departure.lateStores }, { on := 5, ground := Ground.textOnly Departure.lateStores }, { on := 6, ground := Ground.textOnly Departure.lateStores }, { on := 7, ground := Ground.textOnly Departure.lateStoresUnsure }, { on := 8, ground := Ground.textOnly Departure.lateStores }], guard := none }) rfl (fun K hK => ?_) AllReadyH.nil
            rw [if_pos (by rfl)]
            refine wp_store_mid 30 (.tmp 12) (.tmp 86) rfl (w.heap.size + 1) 0 (bv Y).toArray rfl rfl ?htrg1310 HIY.out HOY.out ?_
            case htrg1310 => exact hk.there1 (hYd.1)
            obtain ⟨hk2, hv1⟩ := hk.put1 hpos (hYd.1)
            replace hk := hk2
            clear hk2
            simp only [Act.put]
            refine hK.out _ _ hk (fun _ => ?_)
            clear hK K
            try simp only [Act.put, List.setIfInBounds_toArray, List.set_cons_zero, List.set_cons_succ]
            refine wpAnyH_ready (rs := [10]) (by decide +kernel) (by simp) ?_
            refine AllReadyH.cons (o := { dst := none, op := Op.store 30 (Operand.tmp 13) (Operand.tmp 90), type := 0, pos := "merkle.go:156", after := #[{ on := 7, ground := Ground.data }, { on := 9, ground := Ground.chain }, { on := 0, ground := Ground.phase }, { on := 1, ground := Ground.phase }, { on := 2, ground := Ground.phase }, { on := 3, ground := Ground.phase }, { on := 4, ground := Ground.phase }, { on := 5, ground := Ground.phase }, { on := 6, ground := Ground.phase }, { on := 7, ground := Ground.phase }, { on := 8, ground := Ground.textOnly Departure.lateStores }, { on := 9, ground := Ground.phase }], guard := none }) rfl (fun K hK => ?_) AllReadyH.nil
            rw [if_pos (by rfl)]
            refine wp_store_mid 30 (.tmp 13) (.tmp 90) rfl (w.heap.size + 2) 0 (bv Z).toArray rfl rfl ?htrg1311 HIZ.out HOZ.out ?_
            case htrg1311 => exact hk.there2 (hZd.1)
            replace hv1 := RGs.keep1 hv1 (bv Z).toArray.toList
            obtain ⟨hk2, hv2⟩ := hk.put2 hpos (hZd.1)
            replace hk := hk2
            clear hk2
            simp only [Act.put]
            refine hK.out _ _ hk (fun _ => ?_)
            clear hK K
            try simp only [Act.put, List.setIfInBounds_toArray, List.set_cons_zero, List.set_cons_succ]
            refine wpAnyH_take (i := 11) (oi := { dst := some 14, op := Op.assign (Operand.tmp 91), type := 4, pos := "merkle.go:156", after := #[{ on := 8, ground := Ground.data }, { on := 10, ground := Ground.chain }, { on := 0, ground := Ground.phase }, { on := 1, ground := Ground.phase }, { on := 2, ground := Ground.phase }, { on := 3, ground := Ground.phase }, { on := 4, ground := Ground.phase }, { on := 5, ground := Ground.phase }, { on := 6, ground := Ground.phase }, { on := 7, ground := Ground.phase }, { on := 8, ground := Ground.phase }, { on := 9, ground := Ground.phase }, { on := 10, ground := Ground.phase }], guard := none }) (v := ?vrg1312) rfl (by kernel_rfl) (by kernel_rfl) (by kernel_rfl) (fun _ _ _ h => h) (Or.inl ⟨by rfl, ?yrg1312⟩) hk ?rrg1312
            case yrg1312 => (intro w hSw; (try dsimp only at hSw); go_simp; first | done | with_reducible rfl)
            simp only [Act.put, List.setIfInBounds_toArray, List.set_cons_zero, List.set_cons_succ]
            refine wpAnyH_done (by decide +kernel) ?_ _
            have hlow := hk.low
            clear hk
            go_wp2
            exact bodyPost_ret (v := .tuple #[.agg (bv Y).toArray, .agg (bv Z).toArray, .bool ok]) (results_cct rfl _ _ (w.heap.size + 1) (w.heap.size + 2) (bv Y).toArray (bv Z).toArray _ rfl rfl rfl hv1 HIY.out hv2 HIZ.out) rfl ⟨Y, Z, HRES.out, hYd, hZd, HGR.out, hlow⟩
        · rw [if_pos (by rfl)]
          refine wp_load_mid 30 (.tmp 13) rfl (w.heap.size + 2) 0 rfl (bv g) _ (range_row hv2) Tryd.underlying30 rfl hig ?_
          simp only [Act.put, List.setIfInBounds_toArray, List.set_cons_zero, List.set_cons_succ]
          refine hK.out _ _ hk (fun _ => ?_)
          clear hK K
          try simp only [Act.put, List.setIfInBounds_toArray, List.set_cons_zero, List.set_cons_succ]
          refine wpAnyH_ready (rs := [1]) (by decide +kernel) (by simp) ?_
          refine AllReadyH.cons (o := { dst := some 84, op := Op.load 30 (Operand.tmp 12), type := 30, pos := "merkle.go:156", after := #[], guard := none }) rfl (fun K hK => ?_) AllReadyH.nil
          rw [if_pos (by rfl)]
          refine wp_load_mid 30 (.tmp 12) rfl (w.heap.size + 1) 0 rfl (bv f) _ (range_row hv1) Tryd.underlying30 rfl hif ?_
          simp only [Act.put, List.setIfInBounds_toArray, List.set_cons_zero, List.set_cons_succ]
          refine hK.out _ _ hk (fun _ => ?_)
          clear hK K
          try simp only [Act.put, List.setIfInBounds_toArray, List.set_cons_zero, List.set_cons_succ]
          refine wpAnyH_ready (rs := [3]) (by decide +kernel) (by simp) ?_
          refine AllReadyH.cons (o := { dst := some 86, op := Op.call { callee := Callee.value (Operand.func 86), args := #[Operand.tmp 83, Operand.tmp 84, Operand.tmp 85], argTypes := #[30, 30, 3] }, type := 30, pos := "merkle.go:156", after := #[{ on := 0, ground := Ground.data }, { on := 1, ground := Ground.data }, { on := 2, ground := Ground.data }], guard := none }) rfl (fun K hK => ?_) AllReadyH.nil
          go_simp
          refine (HN1.out _ hk).mono ?_
          rintro e1 w3 ⟨rfl, hb1⟩
          replace hv1 := (hb1.block _ (Array.getElem?_eq_some_iff.1 hv1).1).trans hv1
          replace hv2 := (hb1.block _ (Array.getElem?_eq_some_iff.1 hv2).1).trans hv2
          replace hk := hk.step hb1
          clear hb1
          refine hK.out _ _ hk (fun _ => ?_)
          clear hK K
          try simp only [Act.put, List.setIfInBounds_toArray, List.set_cons_zero, List.set_cons_succ]
          refine wpAnyH_ready (rs := [7]) (by decide +kernel) (by simp) ?_
          refine AllReadyH.cons (o := { dst := some 90, op := Op.call { callee := Callee.value (Operand.func 86), args := #[Operand.tmp 87, Operand.tmp 88, Operand.tmp 89], argTypes := #[30, 30, 3] }, type := 30, pos := "merkle.go:156", after := #[{ on := 4, ground := Ground.data }, { on := 5, ground := Ground.data }, { on := 6, ground := Ground.data }, { on := 3, ground := Ground.chain }], guard := none }) rfl (fun K hK => ?_) AllReadyH.nil
          go_simp
          refine (HN2.out _ hk).mono ?_
          rintro e1 w7 ⟨rfl, hb1⟩
          replace hv1 := (hb1.block _ (Array.getElem?_eq_some_iff.1 hv1).1).trans hv1
          replace hv2 := (hb1.block _ (Array.getElem?_eq_some_iff.1 hv2).1).trans hv2
          replace hk := hk.step hb1
          clear hb1
          refine hK.out _ _ hk (fun _ => ?_)
          clear hK K
          try simp only [Act.put, List.setIfInBounds_toArray, List.set_cons_zero, List.set_cons_succ]
          refine wpAnyH_ready (rs := [9]) (by decide +kernel) (by simp) ?_
          refine AllReadyH.cons (o := { dst := none, op := Op.store 30 (Operand.tmp 12) (Operand.tmp 86), type := 0, pos := "merkle.go:156", after := #[{ on := 3, ground := Ground.data }, { on := 7, ground := Ground.chain }, { on := 0, ground := Ground.phase }, { on := 1, ground := Ground.phase }, { on := 2, ground := Ground.phase }, { on := 3, ground := Ground.phase }, { on := 4, ground := Ground.textOnly Departure.lateStores }, { on := 5, ground := Ground.textOnly Departure.lateStores }, { on := 6, ground := Ground.textOnly Departure.lateStores }, { on := 7, ground := Ground.textOnly Departure.lateStoresUnsure }, { on := 8, ground := Ground.textOnly Departure.lateStores }], guard := none }) rfl (fun K hK => ?_) AllReadyH.nil
          rw [if_pos (by rfl)]
          refine wp_store_mid 30 (.tmp 12) (.tmp 86) rfl (w.heap.size + 1) 0 (bv Y).toArray rfl rfl ?htrg1315 HIY.out HOY.out ?_
          case htrg1315 => exact hk.there1 (hYd.1)
          obtain ⟨hk2, hv1⟩ := hk.put1 hpos (hYd.1)
          replace hk := hk2
          clear hk2
          simp only [Act.put]
          refine hK.out _ _ hk (fun _ => ?_)
          clear hK K
          try simp only [Act.put, List.setIfInBounds_toArray, List.set_cons_zero, List.set_cons_succ]
          refine wpAnyH_ready (rs := [10]) (by decide +kernel) (by simp) ?_
          refine AllReadyH.cons (o := { dst := none, op := Op.store 30 (Operand.tmp 13) (Operand.tmp 90), type := 0, pos := "merkle.go:156", after := #[{ on := 7, ground := Ground.data }, { on := 9, ground := Ground.chain }, { on := 0, ground := Ground.phase }, { on := 1, ground := Ground.phase }, { on := 2, ground := Ground.phase }, { on := 3, ground := Ground.phase }, { on := 4, ground := Ground.phase }, { on := 5, ground := Ground.phase }, { on := 6, ground := Ground.phase }, { on := 7, ground := Ground.phase }, { on := 8, ground := Ground.textOnly Departure.lateStores }, { on := 9, ground := Ground.phase }], guard := none }) rfl (fun K hK => ?_) AllReadyH.nil
          rw [if_pos (by rfl)]
          refine wp_store_mid 30 (.tmp 13) (.tmp 90) rfl (w.heap.size + 2) 0 (bv Z).toArray rfl rfl ?htrg1316 HIZ.out HOZ.out ?_
          case htrg1316 => exact hk.there2 (hZd.1)
          replace hv1 := RGs.keep1 hv1 (bv Z).toArray.toList
          obtain ⟨hk2, hv2⟩ := hk.put2 hpos (hZd.1)
          replace hk := hk2
          clear hk2
          simp only [Act.put]
          refine hK.out _ _ hk (fun _ => ?_)
          clear hK K
          try simp only [Act.put, List.setIfInBounds_toArray, List.set_cons_zero, List.set_cons_succ]
          refine wpAnyH_take (i := 11) (oi := { dst := some 14, op := Op.assign (Operand.tmp 91), type := 4, pos := "merkle.go:156", after := #[{ on := 8, ground := Ground.data }, { on := 10, ground := Ground.chain }, { on := 0, ground := Ground.phase }, { on := 1, ground := Ground.phase }, { on := 2, ground := Ground.phase }, { on := 3, ground := Ground.phase }, { on := 4, ground := Ground.phase }, { on := 5, ground := Ground.phase }, { on := 6, ground := Ground.phase }, { on := 7, ground := Ground.phase }, { on := 8, ground := Ground.phase }, { on := 9, ground := Ground.phase }, { on := 10, ground := Ground.phase }], guard := none }) (v := ?vrg1317) rfl (by kernel_rfl) (by kernel_rfl) (by kernel_rfl) (fun _ _ _ h => h) (Or.inl ⟨by rfl, ?yrg1317⟩) hk ?rrg1317
          case yrg1317 => (intro w hSw; (try dsimp only at hSw); go_simp; first | done | with_reducible rfl)
          simp only [Act.put, List.setIfInBounds_toArray, List.set_cons_zero, List.set_cons_succ]
          refine wpAnyH_done (by decide +kernel) ?_ _
          have hlow := hk.low
          clear hk
          go_wp2
          exact bodyPost_ret (v := .tuple #[.agg (bv Y).toArray, .agg (bv Z).toArray, .bool ok]) (results_cct rfl _ _ (w.heap.size + 1) (w.heap.size + 2) (bv Y).toArray (bv Z).toArray _ rfl rfl rfl hv1 HIY.out hv2 HIZ.out) rfl ⟨Y, Z, HRES.out, hYd, hZd, HGR.out, hlow⟩
end Go.Proofs.YtbednfacipphhaaDoor
