/- What Open answers. -/
import Derived.Test.YtigaciflbgbolaaWalWipe
namespace Go.Proofs.Ytigaciflbgbolaa
open Go.RowKit
set_option linter.unusedVariables false

set_option maxHeartbeats 400000 in
theorem wopen_no (p : Option Addr) (w : World) (h : NoD w p) :
    Calls Try.prog 12 #[.pointer p] w fun e w' => e = .returned (.tuple #[.pointer none, .int .i64 1]) ∧ w = w' := by
  have H : Bx (NoD w p) := ⟨h⟩
  clear h
  go_enter Try.func12, Try.ntmps12
  go_wp2_with fail
  refine (sectors_no p _ H.out).mono ?_
  rintro e w' ⟨rfl, rfl⟩
  go_wp2
  go_ret2
  exact ⟨rfl, rfl⟩
set_option maxRecDepth 100000 in
set_option maxHeartbeats 400000 in
theorem wopen_sum (g : Nat) (own : Nat → Prop) (s : DS) (w : World) (hD : Dsk w g own s) (hoff : s.off = false) (hr : rdF s.now = none) :
    Calls Try.prog 12 #[.pointer (some ⟨g, 0, none⟩)] w fun e w' => e = .returned (.tuple #[.pointer none, .int .i64 13]) ∧ Below w.heap.size w w' := by
  have hn1 := hD.ok.n1
  have hn2 := hD.ok.n2
  have hsx := now_sx hD.ok
  have hnl := now_len s
  have HD : Bx (Dsk w g own s) := ⟨hD⟩
  have HLT : Bx (∀ k, own k → k < w.heap.size) := ⟨hD.lt⟩
  have hq : ((s.F.length : Int) == 0) = false := beq_eq_false_iff_ne.2 (by omega)
  clear hD
  go_enter Try.func12, Try.ntmps12
  go_wp2_with fail
  refine (sectors_any g own s _ HD.out).mono ?_
  rintro e w' ⟨rfl, rfl⟩
  go_wp2_with fail
  refine (rdisk_on g own s _ HD.out hoff).mono ?_
  rintro e w1 ⟨v1, rfl, hown1, hb1⟩
  have hby := flat_byt hsx
  obtain ⟨a1, c1, rfl, hm1⟩ := Bts.of_owns hown1 hby
  have HBT : Bx _ := ⟨hm1⟩
  have HFAR : Bx (0 < 64 * s.F.length → ∀ q, a1 = some q → ¬ own q.block) := ⟨fun _ q e ho => by have h1 := (own_ge hown1 q e).1; have := HLT.out _ ho; omega⟩
  clear hown1 hm1 hby
  go_wp2_with fail
  refine (frames_any s.now a1 _ c1 _ hsx (by rw [hnl]; exact hn2) HBT.out).mono ?_
  rintro e w2 ⟨hb2, r1, r2⟩
  obtain rfl := r1 hr
  clear r1 r2
  have hb := bstep hb1 hb2
  go_wp2
  go_ret2
  exact ⟨rfl, hb⟩
set_option maxRecDepth 100000 in
set_option maxHeartbeats 1000000 in
theorem wopen_err (g : Nat) (own : Nat → Prop) (s : DS) (w : World) (T : List (List Int)) (p : Nat) (hD : Dsk w g own s) (hoff : s.off = false) (hr : rdF s.now = some (T, p)) (hO : s.O.length ≤ 900000) (hE : s.wipE p ≠ 0) :
    Calls Try.prog 12 #[.pointer (some ⟨g, 0, none⟩)] w fun e w' => e = .returned (.tuple #[.pointer none, .int .i64 (s.wipE p)]) ∧ ∃ own', Dsk w' g own' (s.wipS p) ∧ Did own w w' own' := by
  have hn1 := hD.ok.n1
  have hn2 := hD.ok.n2
  have hsx := now_sx hD.ok
  have hnl := now_len s
  have HD : Bx (Dsk w g own s) := ⟨hD⟩
  have HLT : Bx (∀ k, own k → k < w.heap.size) := ⟨hD.lt⟩
  have hq : ((s.F.length : Int) == 0) = false := beq_eq_false_iff_ne.2 (by omega)
  clear hD
  go_enter Try.func12, Try.ntmps12
  go_wp2_with fail
  refine (sectors_any g own s _ HD.out).mono ?_
  rintro e w' ⟨rfl, rfl⟩
  go_wp2_with fail
  refine (rdisk_on g own s _ HD.out hoff).mono ?_
  rintro e w1 ⟨v1, rfl, hown1, hb1⟩
  have hby := flat_byt hsx
  obtain ⟨a1, c1, rfl, hm1⟩ := Bts.of_owns hown1 hby
  have HBT : Bx _ := ⟨hm1⟩
  have HFAR : Bx (0 < 64 * s.F.length → ∀ q, a1 = some q → ¬ own q.block) := ⟨fun _ q e ho => by have h1 := (own_ge hown1 q e).1; have := HLT.out _ ho; omega⟩
  clear hown1 hm1 hby
  go_wp2_with fail
  refine (frames_any s.now a1 _ c1 _ hsx (by rw [hnl]; exact hn2) HBT.out).mono ?_
  rintro e w2 ⟨hb2, r1, r2⟩
  obtain ⟨t1, t2, t3, v2, rfl, hT⟩ := r2 T p hr
  rw [hnl] at t3
  have hb := bstep hb1 hb2
  have HB : Bx _ := ⟨hb⟩
  have hD2 := HD.out.below hb
  have hbt2 := HBT.out.below hb2
  obtain ⟨a2, c2, rfl, _⟩ := hT.form
  clear r1 r2 hb1 hb2 hb HBT hT
  go_wp2_with fail
  refine (wipe_any g own s p a1 _ c1 _ hD2 hbt2 HFAR.out t3 hO).mono ?_
  rintro e w3 ⟨rfl, own3, hD3, hdid⟩
  have hq2 : (s.wipE p != 0) = true := by simpa using hE
  have HD3 : Bx _ := ⟨hD3⟩
  have HDI : Bx _ := ⟨hdid⟩
  clear hD2 hbt2 hD3 hdid hE hr
  obtain ⟨E, HEE⟩ : ∃ E, Bx (E = s.wipE p) := ⟨_, ⟨rfl⟩⟩
  rw [← HEE.out] at hq2 ⊢
  go_wp2
  go_ret2
  exact ⟨by rw [HEE.out]; rfl, own3, HD3.out, (Did.same (Kept.of_below HB.out)).trans HDI.out⟩
set_option maxRecDepth 100000 in
theorem wopen_lg {w2 w3 : World} {g p N : Nat} {a2 : Option Addr} {c2 : Nat} {own own3 : Nat → Prop} {T : List (List Int)} (t1 : TOk T) (t2 : T.length ≤ p) (t3 : p ≤ 4096) (hT : TL w2 (fun k => N ≤ k ∧ k < w2.heap.size) (.slice a2 T.length c2) T) (hlt : ∀ k, own k → k < N) (hdid : Did own w2 w3 own3) (hs : N ≤ w2.heap.size) :
    Lg (w3.alloc (.cells #[.pointer (some ⟨g, 0, none⟩), .slice a2 T.length c2, .int .i64 (p : Int), .bool false] 77)) w3.heap.size (fun k => (N ≤ k ∧ k < w2.heap.size) ∨ k = w3.heap.size) g ⟨T, p, false⟩ := by
  have hk := hdid.kept
  have hT3 := hT.kept hk (fun k hk ho => by have := hlt k ho; omega)
  have hb : Below w3.heap.size w3 (w3.alloc (.cells #[.pointer (some ⟨g, 0, none⟩), .slice a2 T.length c2, .int .i64 (p : Int), .bool false] 77)) := (Below.refl _ _).alloc (Nat.le_refl _) _
  refine ⟨_, ⟨heap_alloc_new _ _, (hT3.below hb).keep (fun _ _ _ => rfl) (Nat.le_refl _) (fun k _ ho => ⟨.inl ho, by have := hk.size; omega⟩), .inr rfl, fun k hk2 => ?_, t1, t2, t3⟩⟩
  have hz : (w3.alloc (.cells #[.pointer (some ⟨g, 0, none⟩), .slice a2 T.length c2, .int .i64 (p : Int), .bool false] 77)).heap.size = w3.heap.size + 1 := by simp
  rw [hz]
  have := hk.size
  rcases hk2 with h | h <;> omega
set_option maxRecDepth 100000 in
set_option maxHeartbeats 1000000 in
theorem wopen_ok (g : Nat) (own : Nat → Prop) (s : DS) (w : World) (T : List (List Int)) (p : Nat) (hD : Dsk w g own s) (hoff : s.off = false) (hr : rdF s.now = some (T, p)) (hO : s.O.length ≤ 900000) (hE : s.wipE p = 0) :
    Calls Try.prog 12 #[.pointer (some ⟨g, 0, none⟩)] w fun e w' => ∃ gl, e = .returned (.tuple #[.pointer (some ⟨gl, 0, none⟩), .int .i64 0]) ∧ ∃ own' ownL, Dsk w' g own' (s.wipS p) ∧ Did own w w' own' ∧ Lg w' gl ownL g ⟨T, p, false⟩ ∧ (∀ k, ownL k → w.heap.size ≤ k) ∧ (∀ k, ownL k → ¬ own' k) := by
  have hn1 := hD.ok.n1
  have hn2 := hD.ok.n2
  have hsx := now_sx hD.ok
  have hnl := now_len s
  have HD : Bx (Dsk w g own s) := ⟨hD⟩
  have HLT : Bx (∀ k, own k → k < w.heap.size) := ⟨hD.lt⟩
  have hq : ((s.F.length : Int) == 0) = false := beq_eq_false_iff_ne.2 (by omega)
  clear hD
  go_enter Try.func12, Try.ntmps12
  go_wp2_with fail
  refine (sectors_any g own s _ HD.out).mono ?_
  rintro e w' ⟨rfl, rfl⟩
  go_wp2_with fail
  refine (rdisk_on g own s _ HD.out hoff).mono ?_
  rintro e w1 ⟨v1, rfl, hown1, hb1⟩
  have hby := flat_byt hsx
  obtain ⟨a1, c1, rfl, hm1⟩ := Bts.of_owns hown1 hby
  have HBT : Bx _ := ⟨hm1⟩
  have HFAR : Bx (0 < 64 * s.F.length → ∀ q, a1 = some q → ¬ own q.block) := ⟨fun _ q e ho => by have h1 := (own_ge hown1 q e).1; have := HLT.out _ ho; omega⟩
  clear hown1 hm1 hby
  go_wp2_with fail
  refine (frames_any s.now a1 _ c1 _ hsx (by rw [hnl]; exact hn2) HBT.out).mono ?_
  rintro e w2 ⟨hb2, r1, r2⟩
  obtain ⟨t1, t2, t3, v2, rfl, hT⟩ := r2 T p hr
  rw [hnl] at t3
  have hb := bstep hb1 hb2
  have HB : Bx _ := ⟨hb⟩
  have hD2 := HD.out.below hb
  have hbt2 := HBT.out.below hb2
  obtain ⟨a2, c2, rfl, _⟩ := hT.form
  have hT' : TL w2 (fun k => w.heap.size ≤ k ∧ k < w2.heap.size) (.slice a2 T.length c2) T := hT.keep (fun _ _ _ => rfl) (Nat.le_refl _) (fun k _ ho => ⟨by have := hb1.size; omega, ho.2⟩)
  have HTT : Bx _ := ⟨hT'⟩
  have HTO : Bx _ := ⟨t1⟩
  clear r1 r2 hb1 hb2 hb HBT hT hT' t1
  go_wp2_with fail
  refine (wipe_any g own s p a1 _ c1 _ hD2 hbt2 HFAR.out t3 hO).mono ?_
  rintro e w3 ⟨rfl, own3, hD3, hdid⟩
  have HD3 : Bx (Dsk w3 g own3 (s.wipS p)) := ⟨hD3⟩
  have HDI : Bx _ := ⟨hdid⟩
  rw [hE]
  have HLG : Bx _ := ⟨wopen_lg (g := g) HTO.out t2 (Nat.le_trans t3 hn2) HTT.out HLT.out hdid HB.out.size⟩
  clear hD2 hbt2 hD3 hdid hE hr
  generalize hTl : T.length = m at HLG t2 ⊢
  clear hTl
  go_wp2
  go_ret2
  have hba : Below w3.heap.size w3 (w3.alloc (.cells #[.pointer (some ⟨g, 0, none⟩), .slice a2 m c2, .int .i64 (p : Int), .bool false] 77)) := (Below.refl _ _).alloc (Nat.le_refl _) _
  have hsz := HDI.out.kept.size
  have hsb := HB.out.size
  refine ⟨_, rfl, own3, _, HD3.out.below hba, ((Did.same (Kept.of_below HB.out)).trans HDI.out).below hba, HLG.out, fun k hk => ?_, fun k hk ho => ?_⟩
  · rcases hk with h | h
    · exact h.1
    · omega
  · rcases hk with h | h
    · rcases HDI.out.new k ho with h2 | h2
      · have := HLT.out k h2; omega
      · omega
    · have := HD3.out.lt k ho
      omega
end Go.Proofs.Ytigaciflbgbolaa
