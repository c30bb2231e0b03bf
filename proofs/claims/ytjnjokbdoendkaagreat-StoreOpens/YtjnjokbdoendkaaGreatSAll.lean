/- All, Room of a store. -/
import Derived.Test.YtjnjokbdoendkaaGreatSSort
namespace Go.Proofs.YtjnjokbdoendkaaGreat
open Go.RowKit
set_option linter.unusedVariables false

set_option maxRecDepth 100000 in
theorem scL_all {L M : List Pr} (hr : Rep L M) (hm : MOk M) : scL L ⟨#[]⟩ ⟨#[]⟩ (M.length : Int) = L := by
  unfold scL
  have h1 : L.filter (sel ⟨#[]⟩ ⟨#[]⟩) = L := List.filter_eq_self.2 fun p hp => by
    unfold sel
    have h2 : klt ⟨#[]⟩ p.1 := klt_nil (hm.k1 p (hr.p.subset hp))
    rw [decide_eq_true h2]
    simp [Lib.hasPrefix]
  rw [h1]
  exact List.take_of_length_le (by rw [hr.p.length_eq]; omega)
set_option maxRecDepth 100000 in
theorem run_len_map {w : World} {gm : Nat} {es : Array MapEntry} {clock : Nat} (hm : w.heap[gm]? = some (.map es clock)) (r : TypeId) : (Builtin.len_ #[84] r #[.map (some gm)]).run Tryz.prog w = .ok (.int .i64 es.size) w := by
  simp [Builtin.len_, run_underlying Tryz.underlying84, MapKept.run_getObj_map hm, Result.andThen, goInt]
set_option maxRecDepth 100000 in
set_option maxHeartbeats 1000000 in
theorem all_any (gs gl : Nat) (q us : Int) (own : Nat → Prop) (M L : List Pr) (w : World) (h : St w gs gl q us own M) (hr : Rep L M) (hM : M.length ≤ 1000000) :
    Calls Tryz.prog 27 #[.pointer (some ⟨gs, 0, none⟩)] w fun e w' => ∃ v, e = .returned v ∧ PL w' (fun k => w.heap.size ≤ k ∧ k < w'.heap.size) v L ∧ Below w.heap.size w w' := by
  have HS := Bx.mk h
  obtain ⟨gm, es, clock, Z, hs⟩ := h
  have H0 := Bx.mk hs.c0
  have c2 := hs.c2
  have hmp := hs.mp
  have hsz : es.size = M.length := by
    have h1 := hs.ez.len
    rw [← hs.zx, List.length_map, ← h1]; simp
  have HR := Bx.mk hr
  have HSZ := Bx.mk hsz
  have HMO := Bx.mk hs.mo
  have hlen := run_len_map hmp 3
  rw [hsz] at hlen
  clear hmp
  clear hs hr hsz
  go_enter Tryz.func27, Tryz.ntmps27
  go_wp2_with fail
  refine (smade_yes gs gl _ H0.out).mono ?_
  rintro e w' ⟨rfl, rfl⟩
  go_wp2_with fail
  refine (scan_any sort_says gs gl q us own M L ⟨#[]⟩ ⟨#[]⟩ (M.length : Int) _ HS.out HR.out hM (by omega) (by omega)).mono ?_
  rintro e w2 ⟨v, rfl, hp, hb⟩
  rw [scL_all HR.out HMO.out] at hp
  have HP := Bx.mk hp
  obtain ⟨a9, n9, c9, rfl⟩ : ∃ a n c, v = .slice a n c := by obtain ⟨a9, c9, h9, _⟩ := hp.form; exact ⟨a9, _, c9, h9⟩
  clear hp hlen
  go_wp2_with fail
  go_ret
  exact ⟨_, rfl, HP.out, hb⟩
set_option maxRecDepth 100000 in
set_option maxHeartbeats 1000000 in
theorem sroom_any (gd gl gs : Nat) (oD oL oS : Nat → Prop) (s : DS) (L : LS) (q : Int) (M : List Pr) (w : World) (h : Tri w gd gl gs oD oL oS s L q M) (hn : L.next ≤ s.F.length) :
    Calls Tryz.prog 30 #[.pointer (some ⟨gs, 0, none⟩)] w fun e w' => e = .returned (.int .i64 (roomV s.F.length L.next)) ∧ ∃ q, w' = w.drewN q := by
  have HT := Bx.mk h
  have H0 := Bx.mk h.t.c0
  have c0 := h.t.c0
  clear h
  go_enter Tryz.func30, Tryz.ntmps30
  go_wp2_with fail
  refine (smade_yes gs gl _ H0.out).mono ?_
  rintro e w' ⟨rfl, rfl⟩
  go_wp2_with fail
  refine (room_any gl gd oD oL s L _ HT.out.d HT.out.l hn).mono ?_
  rintro e w' ⟨rfl, q', rfl⟩
  go_wp2_with fail
  go_ret
  exact ⟨rfl, q', rfl⟩
end Go.Proofs.YtjnjokbdoendkaaGreat
