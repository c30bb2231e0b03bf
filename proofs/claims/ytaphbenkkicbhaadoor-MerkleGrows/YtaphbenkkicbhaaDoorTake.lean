/- What take does to a hash. -/
import Derived.Test.YtaphbenkkicbhaaDoorHashMath
import Derived.Test.YtaphbenkkicbhaaDoorBlock
import Derived.Test.YtaphbenkkicbhaaDoorPad
namespace Go.Proofs.YtaphbenkkicbhaaDoor
open Go.RowKit
set_option linter.unusedVariables false

/-- the hash of the bytes l lies in the block g -/
def HashAt (w : World) (g : Nat) (l : List Int) : Prop :=
  ∃ r, Rst l r ∧ w.heap[g]? = some (.cells (hcl (chn l (l.length / 64)) r l.length).toArray 78 (0, 0))
theorem HashAt.of_block {w w' : World} {g : Nat} {l : List Int} (h : HashAt w g l) (hb : w'.heap[g]? = w.heap[g]?) : HashAt w' g l := by
  obtain ⟨r, h1, h2⟩ := h
  exact ⟨r, h1, hb.trans h2⟩
theorem HashAt.lt {w : World} {g : Nat} {l : List Int} (h : HashAt w g l) : g < w.heap.size := by
  obtain ⟨r, _, h2⟩ := h
  exact (Array.getElem?_eq_some_iff.1 h2).1
theorem rest_slice (g c : Nat) (hc : c < 64) (w : World) : (Instr.sliceAt 70 (.pointer (some ⟨g, 9, none⟩)) (some (.int .i64 (c : Int))) none none).run Tryd.prog w = .ok (.slice (some ⟨g, 9 + c, none⟩) (64 - c) (64 - c)) w := by
  have hlen : Tryd.prog.arrayLen 70 = 64 := by kernel_rfl
  have ht : Tryd.prog.underlying 70 = some (.array (Tryd.prog.arrayLen 70) (Tryd.prog.elem 70)) := by kernel_rfl
  have hsz : (sizeOf (Tryd.prog.elem 70)).run Tryd.prog w = .ok 1 w := by kernel_rfl
  rw [run_sliceAt_array_l w 70 ⟨g, 9, none⟩ ht .i64 _ (by omega) (by rw [hlen]; omega), hsz, hlen]
  simp only [Result.andThen_ok, slicedAt, Int.toNat_natCast]
  rw [if_neg (by omega), Addr.add_lit]
  simp
theorem hash_count {w : World} {g n : Nat} {s : St} {r : List Int} {t : TypeId} (h : w.heap[g]? = some (.cells (hcl s r n).toArray t (0, 0))) (hr : r.length = 64) : w.cell? ⟨g, 73, none⟩ = some (.int .i64 n) := by
  rw [cell_of_row w g 73 _ t (0, 0) h, List.getElem?_toArray]; exact hcl_getN s r n hr
theorem hash_st {w : World} {g n : Nat} {s : St} {r : List Int} {t : TypeId} (h : w.heap[g]? = some (.cells (hcl s r n).toArray t (0, 0))) :
    w.cell? ⟨g, 1, none⟩ = some (.int .u32 s.a) ∧ w.cell? ⟨g, 2, none⟩ = some (.int .u32 s.b) ∧ w.cell? ⟨g, 3, none⟩ = some (.int .u32 s.c) ∧ w.cell? ⟨g, 4, none⟩ = some (.int .u32 s.d) ∧
    w.cell? ⟨g, 5, none⟩ = some (.int .u32 s.e) ∧ w.cell? ⟨g, 6, none⟩ = some (.int .u32 s.f) ∧ w.cell? ⟨g, 7, none⟩ = some (.int .u32 s.g) ∧ w.cell? ⟨g, 8, none⟩ = some (.int .u32 s.h) := by
  refine ⟨?_, ?_, ?_, ?_, ?_, ?_, ?_, ?_⟩ <;> rw [cell_of_row w g _ _ t (0, 0) h] <;> rfl
theorem hash_free {w : World} {g : Nat} {cs : Array Value} {t : TypeId} (h : w.heap[g]? = some (.cells cs t (0, 0))) :
    w.frozen? ⟨g, 1, none⟩ = false ∧ w.frozen? ⟨g, 2, none⟩ = false ∧ w.frozen? ⟨g, 3, none⟩ = false ∧ w.frozen? ⟨g, 4, none⟩ = false ∧
    w.frozen? ⟨g, 5, none⟩ = false ∧ w.frozen? ⟨g, 6, none⟩ = false ∧ w.frozen? ⟨g, 7, none⟩ = false ∧ w.frozen? ⟨g, 8, none⟩ = false := by
  refine ⟨?_, ?_, ?_, ?_, ?_, ?_, ?_, ?_⟩ <;> exact frozen_of_row _ _ _ _ _ h
/-- what a load of 64 bytes at this place reads -/
def rowOf (w : World) : Value → Array Value
  | .pointer (some ⟨b, o, _⟩) => match w.heap[b]? with
    | some (.cells cs _ _) => cs.extract o (o + 64)
    | _ => #[]
  | _ => #[]
def RowOk (w : World) (v : Value) : Prop := ∃ b o cs t, v = .pointer (some ⟨b, o, none⟩) ∧ w.heap[b]? = some (.cells cs t (0, 0)) ∧ o + 64 ≤ cs.size
theorem wp_load64 {dst : Option Tmp} {ty : TypeId} {pos : String} {after : Array Edge} {guard : Option (Nat × Bool)} {x : Operand} {a : Act} {w : World} {K : Act → World → Prop} {Q : Exit → Act → World → Prop} (h : RowOk w (a.eval x)) :
    Oper.wp Tryd.prog { dst := dst, op := .load 70 x, type := ty, pos := pos, after := after, guard := guard } a w K Q = K (a.put dst (.agg (rowOf w (a.eval x)))) w := by
  obtain ⟨b, o, cs, t, hv, hh, hs⟩ := h
  have hr := World.rangeAt_of_block hh o 64
  have hrun := run_loadAt_mid (P := Tryd.prog) w b o 70 _ _ hr Tryd.underlying70 rfl (by rw [Array.length_toList, Array.size_extract, Nat.min_eq_left hs, Nat.add_sub_cancel_left]; exact in_info)
  have e : rowOf w (a.eval x) = (cs.extract o (o + 64)).toList.toArray := by rw [hv]; simp only [rowOf, hh]
  rw [e]
  unfold Oper.wp execOp
  simp only [hv, Sem.run_bind, Sem.run_pure, hrun, Result.andThen_ok]
  rfl
theorem hash_ok {w : World} {g n : Nat} {s : St} {r : List Int} {t : TypeId} (h : w.heap[g]? = some (.cells (hcl s r n).toArray t (0, 0))) (hr : r.length = 64) : RowOk w (.pointer (some ⟨g, 9, none⟩)) :=
  ⟨g, 9, _, t, rfl, h, by rw [List.size_toArray, hcl_length s r n hr]; decide⟩
theorem hash_row {w : World} {g n : Nat} {s : St} {r : List Int} {t : TypeId} (h : w.heap[g]? = some (.cells (hcl s r n).toArray t (0, 0))) (hr : r.length = 64) : rowOf w (.pointer (some ⟨g, 9, none⟩)) = (bv r).toArray := by
  simp only [rowOf, h]
  apply Array.ext_getElem?
  intro j
  rw [Array.getElem?_extract, List.size_toArray, hcl_length s r n hr, List.getElem?_toArray, List.getElem?_toArray]
  by_cases hj : j < 64
  · rw [if_pos (by omega), hcl_getR s r n j (by omega)]
  · rw [if_neg (by omega), List.getElem?_eq_none (by rw [bv_length]; omega)]
theorem block_lit (s : St) (b : List Int) (t : St) (ht : t = blk s b) (w : World) (hs : StU s) (hb : Byt b) (hl : b.length = 64) (htab : Tab w) :
    Calls Tryd.prog 55 #[.agg #[.int .u32 s.a, .int .u32 s.b, .int .u32 s.c, .int .u32 s.d, .int .u32 s.e, .int .u32 s.f, .int .u32 s.g, .int .u32 s.h], .agg (bv b).toArray] w fun e w' => e = .returned (.agg #[.int .u32 t.a, .int .u32 t.b, .int .u32 t.c, .int .u32 t.d, .int .u32 t.e, .int .u32 t.f, .int .u32 t.g, .int .u32 t.h]) ∧ Below w.heap.size w w' := by
  subst ht; exact block_any s b w hs hb hl htab
theorem count_mod (n : Nat) : ((n : Int)).tmod 64 = ((n % 64 : Nat) : Int) := by
  rw [Int.tmod_eq_emod_of_nonneg (by omega)]; omega
theorem take_min {len c : Nat} {x : List Int} (h : x.length = min len (64 - c)) : (bv x).length = Nat.min len (64 - c) := by rw [bv_length, h]
theorem Tab.but {g : Nat} {w w' : World} (h : Tab w) (hb : But g w w') (hg : 0 < g) : Tab w' :=
  ⟨Nat.lt_of_lt_of_le h.pos hb.size, fun i hi => (World.cell?_of_block (w := w) (hb.block 0 h.pos (by omega))).trans (h.cell i hi)⟩

attribute [local go_sem ↓] wp_load64
set_option maxRecDepth 100000 in
set_option maxHeartbeats 1000000 in
theorem take_any (g : Nat) (l m : List Int) (a : Option Addr) (len cap : Nat) (w : World) (hh : HashAt w g l) (hm : Bts w a len cap m) (ha : 0 < len → ∀ p, a = some p → p.block ≠ g) (hg : 0 < g) (htab : Tab w) (hbd : l.length + len ≤ 4611686018427387904) :
    Calls Tryd.prog 44 #[.pointer (some ⟨g, 0, none⟩), .slice a len cap] w fun e w' => (∃ v, e = .returned v) ∧ HashAt w' g (l ++ m) ∧ But g w w' := by
  go_enter Tryd.func44, Tryd.ntmps44
  go_wp2
  go_loopw [1] (fun v wr => ∃ k a' len' cap', v = .slice a' len' cap' ∧ k + len' = len ∧ Bts wr a' len' cap' (m.drop k) ∧ HashAt wr g (l ++ m.take k) ∧ But g w wr ∧ (0 < len' → ∀ p, a' = some p → p.block ≠ g)) (fun v _ => lenOf v)
  case atStart => exact ⟨0, a, len, cap, rfl, by omega, hm, by rw [List.take_zero, List.append_nil]; exact hh, But.refl _ _, ha⟩
  case round =>
    obtain ⟨k, a', len', cap', rfl, hk, hm', ⟨r, hr, hrow⟩, hbut, ha'⟩ := hrel
    by_cases hlt : 0 < len'
    · have hL : Hid ((l ++ m.take k).length = l.length + k) := by
        show _ = _
        have := hm.len_eq
        rw [List.length_append, List.length_take]; omega
      obtain ⟨sb, so, rfl, hsb, hsc⟩ := hm'.spot hlt
      have hne := ha' hlt _ rfl
      have hsrc := hm'.cells
      obtain ⟨L, hLd⟩ : ∃ L, L = l.length + k := ⟨_, rfl⟩
      have hLen : (l ++ m.take k).length = L := by rw [hLd]; exact hL.out
      have hLb : L + len' ≤ 4611686018427387904 := by omega
      obtain ⟨q, hq⟩ : ∃ q, q = min len' (64 - L % 64) := ⟨_, rfl⟩
      have hq1 : 1 ≤ q := by omega
      have hq2 : q ≤ len' := by omega
      have hq3 : L % 64 + q ≤ 64 := by omega
      have hx : ((m.drop k).take q).length = q := by rw [List.length_take, hm'.len_eq]; omega
      have hxb : Byt ((m.drop k).take q) := hm'.byt.take q
      have hxs : ∀ j v, (bv ((m.drop k).take q))[j]? = some v → wr.cell? ((⟨sb, so, none⟩ : Addr).add j) = some v := by
        intro j v hv
        refine hsrc j v ?_
        have hj : j < q := by have := (List.getElem?_eq_some_iff.1 hv).1; rw [bv_length, hx] at this; exact this
        rw [← hv]; unfold bv; rw [List.map_take, List.getElem?_take, if_pos hj]
      have HN : Hid (l ++ m.take (k + q) = (l ++ m.take k) ++ (m.drop k).take q) := by
        show _ = _; rw [List.append_assoc, List.take_add]
      have HD : Hid ((m.drop k).drop q = m.drop (k + q)) := by show _ = _; rw [List.drop_drop]
      have hLd' : Hid (L = l.length + k) := hLd
      rw [hLen] at hrow
      obtain ⟨l', hl'⟩ : ∃ l', l' = l ++ m.take k := ⟨_, rfl⟩
      rw [← hl'] at hLen hr hrow HN
      obtain ⟨x, hxd⟩ : ∃ x, x = (m.drop k).take q := ⟨_, rfl⟩
      rw [← hxd] at hx hxb hxs HN
      have HL' : Hid (l'.length = L) := hLen
      have hcnt := hash_count hrow hr.len
      have hmod := count_mod L
      have hsl := rest_slice g (L % 64) (by omega)
      have Hfit : Hid (9 + L % 64 + (bv x).length ≤ (hcl (chn l' (L / 64)) r L).length) := by show _ ≤ _; rw [hcl_length _ _ _ hr.len, bv_length, hx]; omega
      have Hmin : Hid ((bv x).length = Nat.min len' (64 - L % 64)) := take_min (by rw [hx, hq])
      have Hone : Hid (∀ v ∈ bv x, v.oneCell' = true) := bv_one x
      have Hspl : Hid (splice (hcl (chn l' (L / 64)) r L) (9 + L % 64) (bv x) = hcl (chn l' (L / 64)) (splice r (L % 64) x) L) := hcl_splice _ _ _ _ _ (by rw [hr.len, hx]; exact hq3)
      have Hxl : Hid ((bv x).length = q) := by show _ = _; rw [bv_length, hx]
      have hr64 : Hid ((splice r (L % 64) x).length = 64) := by
        show _ = _
        have := splice_len hr x (by rw [HL'.out, hx]; exact hq3)
        rw [HL'.out] at this; exact this
      have hrst := hr
      have Hsb : Hid (∀ j v, (bv x)[j]? = some v → wr.cell? ((⟨sb, so, none⟩ : Addr).add j) = some v) := hxs
      clear hsrc hxs hl' hxd hLd hsc hLen
      obtain ⟨c, hc⟩ : ∃ c, c = L % 64 := ⟨_, rfl⟩
      have HC : Hid (c = L % 64) := hc
      rw [← hc] at hmod hsl Hfit Hmin Hspl hr64 hq3
      obtain ⟨cur, hcur⟩ : ∃ cur, cur = hcl (chn l' (L / 64)) r L := ⟨_, rfl⟩
      have HCur : Hid (cur = hcl (chn l' (L / 64)) r L) := hcur
      rw [← hcur] at hrow Hfit Hspl
      obtain ⟨X, hX⟩ : ∃ X, X = bv x := ⟨_, rfl⟩
      rw [← hX] at Hfit Hmin Hone Hspl Hxl Hsb
      clear hc hcur hX hq
      go_wp2
      go_region_held3 (fun w' => w'.cell? ⟨g, 73, none⟩ = some (.int .i64 (L : Int))) (first | (exact hcnt) | (exact hash_count (Eq.trans hg2.out (congrArg (fun l => some (Obj.cells (List.toArray l) 78 (0, 0))) Hspl.out)) hr64.out)) ((refine step_copy_but rfl (.tmp 16) (.tmp 17) 22 22 rfl 5 Tryd.underlying22 Tryd.size5 g (9 + c) (64 - c) (64 - c) ⟨sb, so, none⟩ len' cap' (by rfl) (by rfl) cur 78 hrow X Hmin.out Hsb.out Hfit.out Hone.out ?_; intro w2 hg2 hbut2))
      rename_i hHeld
      have hrow2 : w2.heap[g]? = some (.cells (hcl (chn l' (L / 64)) (splice r c x) L).toArray 78 (0, 0)) := hg2.out.trans (congrArg (fun l => some (Obj.cells (List.toArray l) 78 (0, 0))) Hspl.out)
      have hfr2 := frozen_of_row _ _ 73 _ _ hrow2
      have hbut3 : But g wr w2 := (But.drewN (But.refl g wr) 1).trans hbut2
      have hrow3 := heap_setCell_same w2 g 73 _ _ (.int .i64 ((L + q : Nat) : Int)) hrow2
      have hset : (hcl (chn l' (L / 64)) (splice r c x) L).toArray.setIfInBounds 73 (.int .i64 ((L + q : Nat) : Int)) = (hcl (chn l' (L / 64)) (splice r c x) (L + q)).toArray := by
        rw [List.setIfInBounds_toArray, hcl_count _ _ _ _ hr64.out]
      rw [hset] at hrow3
      have hbut4 := hbut3.setCell 73 (.int .i64 ((L + q : Nat) : Int))
      have hcast : ((L + q : Nat) : Int) = (L : Int) + (q : Int) := by omega
      rw [hcast] at hrow3 hbut4
      have hLq : (L : Int) + (q : Int) ≤ 4611686018427387904 := by omega
      have hLq0 : (0 : Int) ≤ (L : Int) + (q : Int) := by omega
      have q0 : (0 : Int) ≤ (q : Int) := by omega
      have q1 : (q : Int) ≤ (len' : Int) := by omega
      rw [Hxl.out]
      have hm2 := hm'.but (hbut3) ha'
      clear hcnt hsl hmod hrow hg2 hbut2 hset hcast Hsb Hfit Hmin Hspl Hxl Hone HCur hm'
      obtain ⟨w3, hw3⟩ : ∃ w3, w3 = w2.setCell ⟨g, 73, none⟩ (.int .i64 ((L : Int) + (q : Int))) := ⟨_, rfl⟩
      have HW3 : Hid (w3 = w2.setCell ⟨g, 73, none⟩ (.int .i64 ((L : Int) + (q : Int)))) := hw3
      rw [← hw3] at hrow3 hbut4
      have hcnt3 := hash_count hrow3 hr64.out
      rw [Int.natCast_add] at hcnt3
      have hm3 : Bts w3 (some ⟨sb, so, none⟩) len' cap' (m.drop k) := hm2.but (by rw [hw3]; exact (But.refl g w2).setCell 73 _) ha'
      have hmB : Bts w3 (some ⟨sb, so + q, none⟩) (len' - q) (cap' - q) (m.drop (k + q)) := by rw [← HD.out]; exact hm3.tail hq2
      have hmA : Hid (cap' = q → Bts w3 (some ⟨sb, so, none⟩) (len' - q) 0 (m.drop (k + q))) := by
        intro hcq
        have hle := hm3.le_cap
        have hln := hm3.len_eq
        rw [← HD.out, show len' - q = 0 from by omega]
        exact Bts.none (List.drop_eq_nil_of_le (by omega))
      have hbut5 : But g w w3 := hbut.trans hbut4
      have hbm : Hid ((c + q = 64) ↔ ((L : Int) + (q : Int)) % 64 = 0) := by have := HC.out; show _ ↔ _; omega
      clear hw3 hm2 hm3 hrow2 hbut3 hbut4
      by_cases hfull : c + q = 64
      · have hbool : ((((L : Int) + (q : Int)) % 64) == 0) = true := by simpa using hbm.out.1 hfull
        have hcl := hrst.full hxb (by rw [HL'.out, hx]; have := HC.out; omega)
        rw [HL'.out, ← HC.out] at hcl
        have HE := hcl.2
        obtain ⟨s, hs⟩ : ∃ s, s = chn l' (L / 64) := ⟨_, rfl⟩
        obtain ⟨t, ht⟩ : ∃ t, t = blk s (splice r c x) := ⟨_, rfl⟩
        have hsu : StU s := by rw [hs]; exact chn_u _ _
        have HR : Hid (Rst (l' ++ x) (splice r c x)) := hcl.1
        rw [← hs, ← ht] at HE
        replace HE : Hid (chn (l' ++ x) ((l' ++ x).length / 64) = t) := HE
        rw [← hs] at hrow3
        have HT : Hid (t = blk s (splice r c x)) := ht
        have hrb := hcl.1.byt
        have HLX : Hid ((l' ++ x).length = L + q) := by show _ = _; rw [List.length_append, HL'.out, hx]
        clear hs ht hcl
        go_wp2
        all_goals
          rw [← HW3.out]
          obtain ⟨c1, c2, c3, c4, c5, c6, c7, c8⟩ := hash_st hrow3
          have hok := hash_ok (w := w3.drew) hrow3 hr64.out
          have hrw := hash_row (w := w3.drew) hrow3 hr64.out
          have hglt : g < w3.drew.heap.size := (Array.getElem?_eq_some_iff.1 hrow3).1
          have hrow3' : w3.drew.heap[g]? = some (.cells (hcl s (splice r c x) (L + q)).toArray 78 (0, 0)) := hrow3
          have ht3 : Tab w3.drew := (htab.but hbut5 hg).drewN 1
          generalize splice r c x = R at *
          go_region_law ((go_simp; refine (block_lit s R t HT.out _ hsu hrb hr64.out ht3).mono ?_; rintro e1 w4 ⟨rfl, hb4⟩; have hrow4 := (hb4.block g hglt).trans hrow3'; obtain ⟨d1, d2, d3, d4, d5, d6, d7, d8⟩ := hash_st hrow4; obtain ⟨f1, f2, f3, f4, f5, f6, f7, f8⟩ := hash_free hrow4))
          all_goals
            have hrow5 := heap_set_splice (o := 1) (vs := uv t.list) hrow4 (by rw [hcl_length _ _ _ hr64.out]; show 1 + 8 ≤ 74; decide)
            rw [hcl_state] at hrow5
            have hb35 : But g w3 (w4.setCells g 1 (uv t.list)) := (((But.refl g w3).drewN 1).trans (But.of_below hb4)).setCells _ _
            change Exit.inBlock 1 _ Exit.normal _ (w4.setCells g 1 (uv t.list))
            generalize w4.setCells g 1 (uv t.list) = w5 at hrow5 hb35 ⊢
            have hash5 : HashAt w5 g (l' ++ x) := ⟨R, HR.out, by rw [HE.out, HLX.out]; exact hrow5⟩
            rw [← HN.out] at hash5
            have hmB5 := hmB.but hb35 (fun _ p hp => by cases hp; exact hne)
            have hmA5 : Hid (cap' = q → Bts w5 (some ⟨sb, so, none⟩) (len' - q) 0 (m.drop (k + q))) := fun hc => (hmA.out hc).but hb35 (fun _ p hp => by cases hp; exact hne)
            have hbut6 := hbut5.trans hb35
            clear c1 c2 c3 c4 c5 c6 c7 c8 d1 d2 d3 d4 d5 d6 d7 d8 f1 f2 f3 f4 f5 f6 f7 f8 hok hrw hrow5 hrow4 hb4 hrow3 hrow3' hb35 hmB
            go_wp2
            go_roundw
            case rel => first | exact ⟨k + q, _, _, _, rfl, by omega, hmA5.out h, hash5, hbut6, fun _ p hp => by cases hp; exact hne⟩ | exact ⟨k + q, _, _, _, rfl, by omega, hmB5, hash5, hbut6, fun _ p hp => by cases hp; exact hne⟩
            case measure => simp [lenOf]; omega
      · have hbool : ((((L : Int) + (q : Int)) % 64) == 0) = false := by simpa using fun h => hfull (hbm.out.2 h)
        have hopen := hrst.open hxb (by rw [HL'.out, hx]; have := HC.out; omega)
        rw [HL'.out, ← HC.out] at hopen
        have hhash : HashAt w3 g (l' ++ x) := ⟨splice r c x, hopen.1, by rw [hopen.2, List.length_append, HL'.out, hx]; exact hrow3⟩
        rw [← HN.out] at hhash
        clear hopen hrow3 hcnt3
        by_cases hcq : cap' = q
        · have hmA' := hmA.out hcq
          go_wp2
          rw [← HW3.out]
          go_roundw
          case rel => exact ⟨k + q, _, _, _, rfl, by omega, hmA', hhash, hbut5, fun _ p hp => by cases hp; exact hne⟩
          case measure => simp [lenOf]; omega
        · go_wp2
          rw [← HW3.out]
          go_roundw
          case rel => exact ⟨k + q, _, _, _, rfl, by omega, hmB, hhash, hbut5, fun _ p hp => by cases hp; exact hne⟩
          case measure => simp [lenOf]; omega
    · have hz : len' = 0 := by omega
      have HF : Hid (l ++ m.take k = l ++ m) := by
        show _ = _
        rw [List.take_of_length_le (by rw [hm.len_eq]; omega)]
      have hash : HashAt wr g (l ++ m) := by rw [← HF.out]; exact ⟨r, hr, hrow⟩
      subst hz
      clear hrow hm' HF
      go_wp2
      go_end0
      exact ⟨⟨_, rfl⟩, hash, hbut⟩
end Go.Proofs.YtaphbenkkicbhaaDoor
