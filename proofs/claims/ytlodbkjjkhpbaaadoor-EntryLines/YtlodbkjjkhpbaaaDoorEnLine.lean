/- A verdict in words: the program's. -/
import Derived.Test.YtlodbkjjkhpbaaaDoorEnLaw
import Derived.Test.YtlodbkjjkhpbaaaDoorIvIn
import Derived.Test.YtlodbkjjkhpbaaaDoorDecAny
import Derived.Test.YtlodbkjjkhpbaaaDoorRefDec
import Derived.Deep.OwnRows
import Derived.Lib.Join
namespace Go.Proofs.YtlodbkjjkhpbaaaDoor
open Go.RowKit
set_option linter.unusedVariables false

set_option maxRecDepth 100000 in
theorem Tryd.extra156 : Builder.Extra Tryd.prog Tryd.lays156_ren where
  sizeBuilder := by kernel_rfl
  liesBuilder := by kernel_rfl
  t5 := Tryd.underlying5
  a5 := Tryd.isAgg5
  z5 := Tryd.sizeOf5
  v5 := Tryd.zeroValue5
  infoByte := by kernel_rfl
  cellsByte := by kernel_rfl
  sizeByte := by kernel_rfl
  neB5 := by decide
/-- the numbers in decimal digits, commas between -/
def jnL (o : List Int) : List UInt8 := Lib.join (o.map Lib.itoa) [44]
def jnS (o : List Int) : ByteArray := ⟨(jnL o).toArray⟩
def lstS (o : List Int) : ByteArray := if o = [] then ⟨#[45]⟩ else jnS o
set_option maxRecDepth 100000 in
theorem itoa_len {x : Int} (h : V64 x) : (Lib.itoa x).length ≤ 21 := by
  have := decS_size (n := x) h.1 h.2
  unfold decS at this
  rw [Lib.size_eq] at this
  exact this
set_option maxRecDepth 100000 in
theorem lens_le : ∀ (o : List Int), (∀ x ∈ o, V64 x) → Lib.lens (o.map Lib.itoa) ≤ 21 * o.length
  | [], _ => Nat.le_refl _
  | x :: t, h => by
    have h1 := lens_le t (fun y hy => h y (List.mem_cons_of_mem _ hy))
    have h2 := itoa_len (h x List.mem_cons_self)
    have e : Lib.lens (Lib.itoa x :: t.map Lib.itoa) = (Lib.itoa x).length + Lib.lens (t.map Lib.itoa) := by simp [Lib.lens]
    rw [List.map_cons, e, List.length_cons]
    omega
set_option maxRecDepth 100000 in
theorem jnL_len {o : List Int} (h : IvK o) : (jnL o).length ≤ 22 * o.length := by
  cases o with
  | nil => exact Nat.le_refl _
  | cons x t =>
    unfold jnL
    rw [List.map_cons, Lib.join_length, ← List.map_cons]
    have h1 := lens_le (x :: t) h
    simp only [List.length_cons, List.length_nil, List.length_map] at h1 ⊢
    omega
/-- a row of texts: the first m are numbers, written -/
structure SR (w : World) (g n : Nat) (o : List Int) (m : Nat) : Prop where
  ex : ∃ cs : Array Value, w.heap[g]? = some (.cells cs 9 (0, 0)) ∧ cs.size = n ∧ ∀ i, i < n → cs[i]? = some (.string (if i < m then decS (o.getD i 0) else ⟨#[]⟩))
set_option maxRecDepth 100000 in
theorem SR.lt {w : World} {g n m : Nat} {o : List Int} (h : SR w g n o m) : g < w.heap.size := by obtain ⟨cs, h1, _⟩ := h.ex; exact (Array.getElem?_eq_some_iff.1 h1).1
set_option maxRecDepth 100000 in
theorem SR.below {w w' : World} {g n m : Nat} {o : List Int} (h : SR w g n o m) (hb : Below w.heap.size w w') : SR w' g n o m := by
  have hlt := h.lt
  obtain ⟨cs, h1, h2⟩ := h.ex
  exact ⟨cs, (hb.block g hlt).trans h1, h2⟩
set_option maxRecDepth 100000 in
theorem SR.at {w : World} {g n m : Nat} {o : List Int} (h : SR w g n o m) (i : Nat) (hi : i < n) : w.cell? ⟨g, i, none⟩ = some (.string (if i < m then decS (o.getD i 0) else ⟨#[]⟩)) ∧ w.frozen? ⟨g, i, none⟩ = false := by
  obtain ⟨cs, h1, _, h3⟩ := h.ex
  exact ⟨by rw [cell_of_row _ g i cs _ (0, 0) h1]; exact h3 i hi, frozen_of_row _ g i cs _ h1⟩
set_option maxRecDepth 100000 in
theorem SR.set {w : World} {g n m : Nat} {o : List Int} (h : SR w g n o m) (hm : m < n) : SR (w.setCell ⟨g, m, none⟩ (.string (decS (o.getD m 0)))) g n o (m + 1) := by
  obtain ⟨cs, h1, h2, h3⟩ := h.ex
  refine ⟨cs.setIfInBounds m (.string (decS (o.getD m 0))), heap_setCell_same w g m cs _ _ h1, by simp [h2], fun i hi => ?_⟩
  rw [Array.getElem?_setIfInBounds]
  by_cases e : m = i
  · subst e; rw [if_pos rfl, if_pos (by omega), if_pos (by omega)]
  · rw [if_neg e, h3 i hi]
    by_cases hlt : i < m
    · rw [if_pos hlt, if_pos (by omega)]
    · rw [if_neg hlt, if_neg (by omega)]
set_option maxRecDepth 100000 in
theorem sr_new (w : World) (n : Nat) (o : List Int) : SR (w.alloc (.cells (madeCells #[.string ⟨#[]⟩] n) 9)) w.heap.size n o 0 := by
  obtain ⟨cs, h1, h2, h3⟩ := World.rowIs_made w (.string ⟨#[]⟩) n 9
  exact ⟨cs, h1, h2, fun i hi => by rw [if_neg (by omega)]; exact h3 i hi⟩
set_option maxRecDepth 100000 in
theorem Tryd.infoStr : (Tryd.prog.info? 9).map (fun i => (i.zero, i.size, i.bytes)) = some (some (.string ⟨#[]⟩), 1, 16) := by kernel_rfl
set_option maxRecDepth 100000 in
theorem lstS_nil : lstS [] = ⟨#[45]⟩ := rfl
set_option maxRecDepth 100000 in
theorem lstS_some {o : List Int} (h : o ≠ []) : lstS o = jnS o := by unfold lstS; rw [if_neg h]
set_option maxRecDepth 100000 in
theorem join_dec (o : List Int) : Lib.join ((o.map decS).map (·.data.toList)) (⟨#[44]⟩ : ByteArray).data.toList = jnL o := by
  unfold jnL
  rw [List.map_map]
  congr 1
set_option maxHeartbeats 4000000 in
set_option maxRecDepth 100000 in
theorem listed20_any (a : Option Addr) (len cap : Nat) (o : List Int) (w : World) (h : Ivs w a len cap o) (hk : IvK o) (hl : len ≤ 100) (ht : Tens w) :
    Calls Tryd.prog 11 #[.slice a len cap] w fun x w' => x = .returned (.string (lstS o)) ∧ Below w.heap.size w w' := by
  have H := Bx.mk h
  have HK := Bx.mk hk
  have HT := Bx.mk ht
  have HLEN : Bx (o.length = len) := ⟨h.len_eq⟩
  clear h hk ht
  by_cases h0 : len = 0
  · have HF : Bx (lstS o = ⟨#[45]⟩) := ⟨by rw [List.eq_nil_of_length_eq_zero (HLEN.out.trans h0)]; rfl⟩
    subst h0
    go_enter Tryd.func11, Tryd.ntmps11
    go_wp2_with fail
    go_ret
    exact ⟨by rw [HF.out]; rfl, Below.refl _ _⟩
  · have hq : ((len : Int) == 0) = false := by simp; omega
    have hmk := run_make_row' (P := Tryd.prog) 35 9 (.string ⟨#[]⟩) 16 Tryd.underlying35 Tryd.infoStr rfl .i64 .i64 len (by omega) (by omega)
    have HS0 := Bx.mk (sr_new w len o)
    have HB0 : Bx (Below w.heap.size w (w.alloc (.cells (madeCells #[.string ⟨#[]⟩] len) 9))) := ⟨(Below.refl _ _).alloc (Nat.le_refl _) _⟩
    obtain ⟨gs, HGS⟩ : ∃ gs, Bx (gs = w.heap.size) := ⟨_, ⟨rfl⟩⟩
    rw [← HGS.out] at HS0
    have HF : Bx (lstS o = jnS o) := ⟨lstS_some (fun e => by rw [e] at HLEN; exact h0 HLEN.out.symm)⟩
    clear h0
    go_enter Tryd.func11, Tryd.ntmps11
    go_upto_region 4 with fail
    rw [← HGS.out]
    generalize w.alloc (.cells (madeCells #[.string ⟨#[]⟩] len) 9) = wa at HS0 HB0 ⊢
    clear hmk
    go_wp2_with fail
    go_loopw [14] (fun i wr => ∃ m : Nat, m ≤ len ∧ i = .int .i64 m ∧ Bx (SR wr gs len o m) ∧ Bx (Below w.heap.size w wr)) (fun i _ => len - (intOf i).toNat)
    case atStart => exact ⟨0, Nat.zero_le _, rfl, HS0, HB0⟩
    case round =>
      clear HS0 HB0
      obtain ⟨m, hm, rfl, HS, HB⟩ := hrel
      by_cases hlt : m < len
      · have hmI : (m : Int) < (len : Int) := by omega
        obtain ⟨b, off, rfl, _, x0⟩ := (H.out.below HB.out).iv m hlt 0
        have hx := HK.out.get m (by rw [HLEN.out]; exact hlt) 0
        have HXD : Bx (⟨(Lib.itoa (o.getD m 0)).toArray⟩ = decS (o.getD m 0)) := ⟨rfl⟩
        go_wp2_with fail
        refine (dec_any (o.getD m 0) hx.1 hx.2 _ (HT.out.below HB.out)).mono ?_
        rintro e w1 ⟨rfl, hb1⟩
        rw [HXD.out]
        have HS1 := Bx.mk (HS.out.below hb1)
        have HB1 := Bx.mk (bstep HB.out hb1)
        obtain ⟨z0, z1⟩ := HS1.out.at m hlt
        have HS2 := Bx.mk (HS1.out.set hlt)
        have HB2 : Bx (Below w.heap.size w (w1.setCell ⟨gs, m, none⟩ (.string (decS (o.getD m 0))))) := ⟨HB1.out.setCell (p := ⟨gs, m, none⟩) (by show w.heap.size ≤ gs; rw [HGS.out]; exact Nat.le_refl _) _⟩
        rw [if_neg (by omega)] at z0
        clear hb1 HS HB HS1 HB1 x0 hx
        generalize decS (o.getD m 0) = X at HS2 HB2 HXD
        go_wp2_with fail
        go_roundw
        case rel => exact ⟨m + 1, by omega, by go_num, HS2, HB2⟩
        case measure => simp [intOf]; omega
      · have hmI : ¬ (m : Int) < (len : Int) := by omega
        obtain rfl : m = len := by omega
        have HJ : Bx (∀ W, W = wr → Calls Tryd.prog 15 #[.slice (some ⟨gs, 0, none⟩) m m, .string ⟨#[44]⟩] W fun e w' => e = .returned (.string (jnS o)) ∧ Below W.heap.size W w') := ⟨fun W hW => by
          subst hW
          have hll : (o.map decS).length = m := by rw [List.length_map]; exact HLEN.out
          have hj := Any.strings_Join Tryd.lays156 Tryd.extra156 gs 0 m (o.map decS) ⟨#[44]⟩ W (fun j x hj => by
            have hjm : j < m := by rw [← hll]; exact (List.getElem?_eq_some_iff.1 hj).1
            rw [Nat.zero_add, (HS.out.at j hjm).1, if_pos hjm]
            rw [List.getElem?_map, List.getElem?_eq_getElem (by rw [HLEN.out]; exact hjm)] at hj
            rw [List.getD_eq_getElem?_getD, List.getElem?_eq_getElem (by rw [HLEN.out]; exact hjm)]
            exact congrArg _ (congrArg Value.string (Option.some.inj hj))) HS.out.lt (by rw [hll]; omega) (by rw [hll]; exact Nat.le_refl _) (by rw [join_dec]; have := jnL_len HK.out; rw [HLEN.out] at this; omega)
          rw [hll, join_dec] at hj
          exact hj⟩
        have HB' := HB
        go_wp2_with fail
        refine (HJ.out _ rfl).mono ?_
        rintro e w1 ⟨rfl, hb1⟩
        have HB1 := Bx.mk (bstep HB.out hb1)
        clear hb1 HJ HS
        generalize jnS o = J at HF
        go_wp2_with fail
        go_ret
        exact ⟨by rw [HF.out]; rfl, HB1.out⟩
end Go.Proofs.YtlodbkjjkhpbaaaDoor
