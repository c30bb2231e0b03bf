/- Logs at rest. No walk. That anything is kept at all. -/
import Derived.Test.YtjnjokbdoendkaaGreatSwp
import Derived.Test.YtjnjokbdoendkaaGreatSwa
import Derived.Test.YtjnjokbdoendkaaGreatSco
import Derived.Test.YtjnjokbdoendkaaGreatSds
import Derived.Lib.SlBytesConst
namespace Go.Proofs.YtjnjokbdoendkaaGreat
open Go.RowKit
set_option linter.unusedVariables false

/-- the log at rest that has these texts -/
def lgs (T : List (List Int)) : LS := ⟨T, (FrS 0 T).length, false⟩
set_option maxRecDepth 100000 in
theorem ap_cases {s : DS} {T : List (List Int)} {b : List Int} (h : Rest s T) (hb : Byt b) :
    (s.armed = false → (apS s (lgs T) b).armed = false) ∧ (apS s (lgs T) b).F.length = s.F.length ∧
    ((apE s (lgs T) b = 0 ∧ Rest (apS s (lgs T) b) (T ++ [b]) ∧ apL s (lgs T) b = lgs (T ++ [b]) ∧ b.length ≤ 16384 ∧ (FrS 0 T).length + ns (20 + b.length) ≤ s.F.length) ∨
     (apE s (lgs T) b = 14 ∧ s.armed = true ∧ (apS s (lgs T) b).off = true ∧ (apS s (lgs T) b).O.length ≤ s.F.length ∧ apL s (lgs T) b = ⟨T, (FrS 0 T).length, true⟩ ∧ b.length ≤ 16384 ∧ ∀ K, Lay T (app (apS s (lgs T) b).F (kpt (apS s (lgs T) b).O K)) ∨ Lay (T ++ [b]) (app (apS s (lgs T) b).F (kpt (apS s (lgs T) b).O K))) ∨
     ((apE s (lgs T) b = 5 ∨ apE s (lgs T) b = 11) ∧ apS s (lgs T) b = s ∧ apL s (lgs T) b = lgs T ∧ (16384 < b.length ∨ s.F.length < (FrS 0 T).length + ns (20 + b.length)))) := by
  by_cases hgo : (lgs T).go s b = true
  · obtain ⟨g1, g2, _⟩ := LS.go_iff.1 hgo
    have g2' : (FrS 0 T).length + ns (20 + b.length) ≤ s.F.length := g2
    obtain ⟨e1, e2⟩ := ap_yes hgo
    obtain ⟨a1, a2, a3⟩ := apW_rest h g1 hb g2'
    have hw : (lgs T).wr s b = s.apW (FrS 0 T).length (prt (frmL ((T.length : Int) + 1) b)) := rfl
    rw [← hw] at a1 a2 a3
    rw [e1, e2]
    refine ⟨fun ha => (a1 ha).2, a2, ?_⟩
    rcases a3 with ⟨b1, b2⟩ | ⟨b1, b2, b3, b4⟩
    · refine .inl ⟨b1, b2, ?_, g1, g2'⟩
      rw [ap_ok hgo b1]
      show (⟨T ++ [b], (FrS 0 T).length + ns (20 + b.length), false⟩ : LS) = ⟨T ++ [b], (FrS 0 (T ++ [b])).length, false⟩
      rw [FrS_snoc, List.length_append, chk_len, frmL_len]
    · refine .inr (.inl ⟨b1, ?_, b2, b3, ?_, g1, b4⟩)
      · cases ha : s.armed with
        | true => rfl
        | false => have := (a1 ha).1; omega
      · rw [ap_er hgo (by rw [b1]; decide)]; rfl
  · have hgo' : (lgs T).go s b = false := by simpa using hgo
    obtain ⟨e1, e2⟩ := ap_no hgo'
    rw [e1, e2]
    refine ⟨fun h => h, rfl, .inr (.inr ⟨?_, rfl, rfl, ?_⟩)⟩
    · unfold apE
      by_cases h1 : 16384 < b.length
      · rw [if_pos h1]; exact .inl rfl
      · rw [if_neg h1]
        by_cases h2 : s.F.length < (lgs T).next + ns (20 + b.length)
        · rw [if_pos h2]; exact .inr rfl
        · exact absurd (LS.go_iff.2 ⟨by omega, by omega, rfl⟩) hgo
    · by_cases h1 : 16384 < b.length
      · exact .inl h1
      · refine .inr (Classical.byContradiction fun h2 => hgo (LS.go_iff.2 ⟨by omega, ?_, rfl⟩))
        show (FrS 0 T).length + _ ≤ _
        omega
set_option maxRecDepth 100000 in
theorem rest_new (n : Nat) : Rest (dnew n) [] := ⟨rfl, rfl, TOk.nil, n, rfl⟩
set_option maxRecDepth 100000 in
theorem Rest.now {s : DS} {T : List (List Int)} (h : Rest s T) : s.now = s.F := by unfold DS.now; rw [h.o]; rfl
set_option maxRecDepth 100000 in
theorem Rest.rd {s : DS} {T : List (List Int)} (h : Rest s T) (hok : s.Ok) : rdF s.now = some (T, (FrS 0 T).length) := by
  rw [h.now]; exact rd_lay hok.f h.lay h.t hok.n2
set_option maxRecDepth 100000 in
/-- Open of a disk at rest: nothing is written -/
theorem wopen_rest (g : Nat) (own : Nat → Prop) (s : DS) (w : World) (T : List (List Int)) (hD : Dsk w g own s) (h : Rest s T) :
    Calls Tryz.prog 34 #[.pointer (some ⟨g, 0, none⟩)] w fun e w' => ∃ gl, e = .returned (.tuple #[.pointer (some ⟨gl, 0, none⟩), .int .i64 0]) ∧ ∃ own' ownL, Dsk w' g own' s ∧ Did own w w' own' ∧ Lg w' gl ownL g (lgs T) ∧ (∀ k, ownL k → w.heap.size ≤ k) ∧ (∀ k, ownL k → ¬ own' k) := by
  obtain ⟨e1, e2⟩ := wip_rest h
  have := wopen_ok g own s w T (FrS 0 T).length hD h.off (h.rd hD.ok) (by rw [h.o]; exact Nat.zero_le _) e1
  rw [e2] at this
  exact this
end Go.Proofs.YtjnjokbdoendkaaGreat
namespace Go.Proofs.YtjnjokbdoendkaaGreat
open Go.RowKit
set_option linter.unusedVariables false

set_option maxRecDepth 100000 in
/-- a store opened on a disk at rest -/
theorem sopen_rest (g : Nat) (own : Nat → Prop) (s : DS) (q : Int) (w : World) (T : List (List Int)) (hq : ¬ q < 0) (hD : Dsk w g own s) (h : Rest s T) (hd : TDec T) :
    Calls Tryz.prog 11 #[.pointer (some ⟨g, 0, none⟩), .int .i64 q] w fun e w' => ∃ gs gl oD oL oS, e = .returned (.tuple #[.pointer (some ⟨gs, 0, none⟩), .int .i64 0]) ∧ Tri w' g gl gs oD oL oS s (lgs T) q (mkM T) ∧ Did own w w' oD ∧ (∀ k, oL k → w.heap.size ≤ k) ∧ (∀ k, oS k → w.heap.size ≤ k) := by
  obtain ⟨e1, e2⟩ := wip_rest h
  have h1 := sopen_ok g own s q w T (FrS 0 T).length hq hD h.off (h.rd hD.ok) (by rw [h.o]; exact Nat.zero_le _) e1
  refine h1.mono ?_
  rintro e w' (⟨_, h2⟩ | ⟨h2, _⟩)
  · rw [e2] at h2; exact h2
  · exact absurd hd h2
def ch1 : Chg := ⟨⟨#[97]⟩, false, [49]⟩
set_option maxRecDepth 100000 in
theorem ch1_chk : chkL [ch1] = 0 := by decide
set_option maxRecDepth 100000 in
theorem ch1_co : coE (dnew 2) (lgs []) 9 [] [ch1] = 0 ∧ coM (dnew 2) (lgs []) 9 [] [ch1] = doM [] [ch1] := by
  have hb : Byt (encL [ch1]) := by
    have e : encL [ch1] = [1, 0, 1, 97, 1, 49] := by decide
    rw [e]; intro c hc; simp at hc; omega
  have hl : (encL [ch1]).length = 6 := by decide
  obtain ⟨_, _, hc⟩ := ap_cases (rest_new 2) hb
  have hE : apE (dnew 2) (lgs []) (encL [ch1]) = 0 := by
    rcases hc with ⟨h1, _⟩ | ⟨_, h2, _⟩ | ⟨_, _, _, h4⟩
    · exact h1
    · cases h2
    · have e : (FrS 0 []).length = 0 := rfl
      have e2 : (dnew 2).F.length = 2 := by simp [dnew]
      have e3 : ns (20 + 6) = 1 := by decide
      rw [e, e2, hl, e3] at h4
      omega
  have hn : coN 9 [] [ch1] = true := by decide
  exact ⟨by rw [coE_a ch1_chk hn, hE], by unfold coM; rw [if_pos ⟨hn, hE⟩]⟩
set_option maxRecDepth 100000 in
theorem ch1_by : byM (doM [] [ch1]) = 2 := by decide
set_option maxRecDepth 100000 in
theorem ch1_ct {w : World} {G : Nat} {a : Option Addr} {c b : Nat} (hr : w.heap[b]? = some (.cells #[.string ⟨#[97]⟩, .bool false, .slice a 1 c] 48 (0, 0))) (hb : Bts w a 1 c [49]) (hn : ∀ p, a = some p → G ≤ p.block) (hg : G ≤ b) : CT (fun k => G ≤ k) w (some ⟨b, 0, none⟩) 1 1 [ch1] :=
  ⟨rfl, Nat.le_refl _, by unfold maxLen; omega, fun _ => ⟨b, 0, rfl, (Array.getElem?_eq_some_iff.1 hr).1, hg, fun i hi => by
    obtain rfl : i = 0 := by omega
    refine ⟨⟨ch1, a, 1, c⟩, rfl, fun j hj => ?_, hb, fun _ p e => hn p e⟩
    rw [Nat.zero_mul, Nat.zero_add, cell_of_row w b j _ _ (0, 0) hr]
    match j, hj with
    | 0, _ => rfl
    | 1, _ => rfl
    | 2, _ => rfl⟩⟩
set_option maxRecDepth 100000 in
set_option maxHeartbeats 2000000 in
theorem lives_any (w : World) :
    Calls Tryz.prog 23 #[] w fun e w' => e = .returned (.bool true) ∧ Below w.heap.size w w' := by
  go_enter Tryz.func23, Tryz.ntmps23
  go_wp2_with fail
  refine (new_any 2 _ (by decide) (by decide)).mono ?_
  rintro e w1 ⟨g, rfl, hD, hb1⟩
  obtain ⟨own, hown⟩ : ∃ own : Nat → Prop, own = fun k => w.heap.size ≤ k ∧ k < w1.heap.size := ⟨_, rfl⟩
  rw [← hown] at hD
  have HO : Bx (∀ k, own k → w.heap.size ≤ k) := ⟨fun k h => by rw [hown] at h; exact h.1⟩
  clear hown
  go_wp2_with fail
  refine (sopen_rest g own (dnew 2) 9 _ [] (by decide) hD (rest_new 2) (fun b hb => by simp at hb)).mono ?_
  rintro e w2 ⟨gs, gl, oD, oL, oS, rfl, hT, hdid, hlo, hso⟩
  have HT : Bx (Tri w2 g gl gs oD oL oS (dnew 2) (lgs []) 9 []) := ⟨hT⟩
  have HLOW : Bx (Below w.heap.size w w2) := ⟨hb1.trans (hdid.kept.low HO.out hb1.size)⟩
  have HOD : Bx (∀ k, oD k → w.heap.size ≤ k) := ⟨fun k h => by
    rcases hdid.new k h with h1 | h1
    · exact HO.out k h1
    · have := hb1.size; omega⟩
  have HOL : Bx (∀ k, oL k → w.heap.size ≤ k) := ⟨fun k h => by have := hlo k h; have := hb1.size; omega⟩
  have HOS : Bx (∀ k, oS k → w.heap.size ≤ k) := ⟨fun k h => by have := hso k h; have := hb1.size; omega⟩
  have hm : Bts (w2.alloc (.cells #[.int .u8 49] 5 (1, 2))) (some ⟨w2.heap.size, 0, none⟩) 1 1 [49] := bts_const w2 [49] (by intro c hc; simp only [List.mem_singleton] at hc; omega) (1, 2) (by decide)
  have hcv : (convert 46 46 (.slice (some ⟨w2.heap.size, 0, none⟩) 1 1)).run Tryz.prog (w2.alloc (.cells #[.int .u8 49] 5)) = .ok (.slice (some ⟨w2.heap.size, 0, none⟩) 1 1) (w2.alloc (.cells #[.int .u8 49] 5 (1, 2))) := Lib.run_convert_bytes_const w2 _ _ #[.int .u8 49] 1 1 Tryz.underlying46 Tryz.underlying5
  have hba : Below w2.heap.size w2 (w2.alloc (.cells #[.int .u8 49] 5 (1, 2))) := (Below.refl _ _).alloc (Nat.le_refl _) _
  have hs3 : (w2.alloc (.cells #[.int .u8 49] 5 (1, 2))).heap.size = w2.heap.size + 1 := by simp
  clear hD hdid hlo hso hb1 HO hT
  generalize w2.alloc (.cells #[.int .u8 49] 5 (1, 2)) = w3 at hm hcv hba hs3
  have HM := Bx.mk hm
  have HBA := Bx.mk hba
  have HS3 := Bx.mk hs3
  have HRW := Bx.mk (heap_alloc_new w3 (.cells #[.string ⟨#[97]⟩, .bool false, .slice (some ⟨w2.heap.size, 0, none⟩) 1 1] 48))
  have HB4 : Bx (Below w2.heap.size w2 (w3.alloc (.cells #[.string ⟨#[97]⟩, .bool false, .slice (some ⟨w2.heap.size, 0, none⟩) 1 1] 48))) := ⟨hba.alloc (by omega) _⟩
  have HM4 : Bx (Bts (w3.alloc (.cells #[.string ⟨#[97]⟩, .bool false, .slice (some ⟨w2.heap.size, 0, none⟩) 1 1] 48)) (some ⟨w2.heap.size, 0, none⟩) 1 1 [49]) := ⟨hm.below ((Below.refl _ _).alloc (Nat.le_refl _) _)⟩
  clear hm hba hs3
  go_wp2_with fail
  refine (commit_any g gl gs oD oL oS (dnew 2) (lgs []) 9 [] (fun k => w2.heap.size ≤ k) _ 1 1 [ch1] _ (HT.out.below HB4.out) (ch1_ct HRW.out HM4.out (fun p e => by cases e; exact Nat.le_refl _) (by have := HS3.out; omega)) (fun k hk => ⟨fun ho => by have := HT.out.d.lt k ho; omega, fun ho => by have := HT.out.l.lt k ho; omega, fun ho => by have := HT.out.t.lt k ho; omega⟩) (fun c hc => by simp at hc; rw [hc]; decide) (by simp [dnew]) (by decide)).mono ?_
  rintro e w4 ⟨rfl, pD, pL, pS, hT4, hd4⟩
  rw [ch1_co.1]
  rw [ch1_co.2] at hT4
  have hlow4 := HLOW.out.trans (HB4.out.mono HLOW.out.size)
  have HLOW4 : Bx (Below w.heap.size w w4) := ⟨hlow4.trans (hd4.kept.low (fun k hk => by rcases hk with h | h | h; exact HOD.out k h; exact HOL.out k h; exact HOS.out k h) hlow4.size)⟩
  have HU : Bx (St w4 gs gl 9 (2 : Int) pS (doM [] [ch1])) := ⟨by have h := hT4.t; rw [ch1_by] at h; exact h⟩
  clear hT4 hd4 hlow4 hcv
  go_wp2_with fail
  refine (used_any gs gl 9 2 pS _ _ HU.out).mono ?_
  rintro e w5 ⟨rfl, rfl⟩
  go_wp2_with fail
  go_ret
  exact ⟨rfl, HLOW4.out⟩
end Go.Proofs.YtjnjokbdoendkaaGreat
