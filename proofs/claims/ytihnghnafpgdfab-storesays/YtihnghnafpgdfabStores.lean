/-
  THE CLOSED FACT OF STORES: what is committed is there.
-/
import Derived.Test.YtihnghnafpgdfabStoreSaysBase
namespace Go.Proofs.Ytihnghnafpgdfab
open Go.RowKit Go.BigFrame
set_option linter.unusedVariables false
set_option linter.unusedSimpArgs false

set_option maxRecDepth 100000 in
set_option maxHeartbeats 1000000 in
theorem stored_any (N : Nat) (w : World) (hN : 42 ≤ N) (hN2 : N ≤ 60) :
    Calls Try.prog 92 #[.int .i64 N] w fun e w' => ∃ p d b s g, e = .returned (.tuple #[.pointer (some ⟨p.B, 0, none⟩), .pointer (some ⟨b, 0, none⟩), .bool true]) ∧ Sm w w' N b s g p d ∧ s.rows = [] ∧ g.used = 0 := by
  have KN : Hid _ := diskNew_good N w (by omega) hN2
  go_enter Try.func92, Try.ntmps92
  go_wp2_with fail
  refine Calls.mono KN.out ?_
  rintro e w1 ⟨B, gn, gk, rfl, hd, hb⟩
  obtain ⟨p, hp⟩ : ∃ p : Dp, p = ⟨w.heap.size, B, gn, gk, .slice none 0 0⟩ := ⟨_, rfl⟩
  have hB : p.B = B := by rw [hp]
  have HLO : Hid (p.lo = w.heap.size) := by show _ = _; rw [hp]
  rw [← hp] at hd
  have HB1 : Hid (Below w.heap.size w w1) := hb
  subst hB
  have KF : Hid _ := format_new p N w1 hd hN hN2
  clear hd hb hp KN
  go_wp2_with fail
  refine Calls.mono KF.out ?_
  rintro e w2 ⟨rfl, u, d, hd2, hk, hb2⟩
  have hb3 : Below w.heap.size w w2 := HB1.out.trans (by have := hb2; rw [HLO.out] at this; exact this)
  have KO : Hid _ := open_first (w := w) { p with wv := u } d N w2 hd2 hk hN (by show _ ≤ p.lo; rw [HLO.out]; exact Nat.le_refl _) hb3
  clear hd2 hk hb2 hb3 KF HB1 HLO
  go_wp2_with fail
  refine Calls.mono KO.out ?_
  rintro e w3 ⟨b, s, g, rfl, hs, h1, h2⟩
  have HA : Hid (Sm w w3 N b s g { p with wv := u } d ∧ s.rows = [] ∧ g.used = 0) := ⟨hs, h1, h2⟩
  clear hs h1 h2 KO
  go_wp2
  go_ret3
  exact ⟨{ p with wv := u }, d, b, s, g, rfl, HA.out⟩
def k0 : Ms := ⟨none, 0, [], 0, 24⟩
theorem commitF_k0 : commitF k0 [kx] = 0 := by decide
theorem commitU_k0 : commitU k0 [kx] = 2 := by decide
theorem applied_k0 : (appliedC [] [kx]).length = 1 := by decide

set_option maxRecDepth 100000 in
set_option maxHeartbeats 1000000 in
theorem stores_any (w : World) : Calls Try.prog 58 #[] w fun e w' => e = .returned (.bool true) ∧ Below w.heap.size w w' := by
  go_enter Try.func58, Try.ntmps58
  go_wp2_with fail
  refine (stored_any 50 w (by omega) (by omega)).mono ?_
  rintro e w1 ⟨p, d, b, s, g, rfl, hs, h1, h2⟩
  obtain ⟨W, hW⟩ : ∃ W, W = w1.alloc (.cells #[.string kx.key, .string kx.val, .bool kx.gone] 73) := ⟨_, rfl⟩
  have hbe : Below w1.heap.size w1 W := by rw [hW]; exact (Below.refl _ _).alloc (Nat.le_refl _) _
  have hdeed : Deed w.heap.size W (some ⟨w1.heap.size, 0, none⟩) [kx] := by
    rw [hW]
    exact ⟨CC.one w1 kx _, fun x hx _ => .inr (by injection hx with hx; subst hx; exact ⟨_, _, heap_alloc_new w1 _⟩)⟩
  have kc := sm_commit (hs.go hbe) k0 (by omega) (by omega) (by rw [h1]; rfl) (by rw [h2]; rfl) rfl (some ⟨w1.heap.size, 0, none⟩) 1 [kx] hdeed (by intro h; cases h) (by simp)
  rw [commitF_k0, commitU_k0, errV_zero rfl, h1] at kc
  have KC : Hid _ := kc
  clear kc hdeed hbe hs h1 h2
  go_wp2_with fail
  have hW' : W = w1.alloc (.cells #[.string ⟨#[107]⟩, .string ⟨#[120]⟩, .bool false] 73) := hW
  rw [← hW']
  refine Calls.mono KC.out ?_
  rintro e w2 ⟨rfl, ⟨s', g', p', d', hpB, hs', hor⟩, -⟩
  rcases hor with ⟨h0, -⟩ | ⟨-, h1, h2⟩
  · exact absurd rfl h0
  have HS : Hid (Sm w w2 50 b s' g' p' d') := hs'
  have HR : Hid (s'.rows.length = 1) := by show _ = _; rw [h1]; exact applied_k0
  have HU : Hid (g'.used = 2) := h2
  have ko := open_kept p' d' 50 s'.side g'.used s'.rows w2 hs'.disk hs'.kept (by omega)
  rw [hpB] at ko
  have KO : Hid _ := ko
  clear ko hs' h1 h2 KC hW hW'
  go_wp2_with fail
  refine Calls.mono KO.out ?_
  rintro e w3 ⟨b', ra, rc, lb, rfl, hb3, ho⟩
  have HS3 : Hid (Sm w w3 50 b s' g' p' d') := HS.out.go hb3
  have KRO : Hid _ := storeRows_any b' _ w3 ho.at' (by show s'.rows.length ≤ 100; rw [HR.out]; omega)
  clear ho hb3 KO HS
  go_wp2_with fail
  refine Calls.mono KRO.out ?_
  rintro e w4 ⟨v, rfl, hov, hb4⟩
  have HS4 : Hid (Sm w w4 50 b s' g' p' d') := HS3.out.go hb4
  obtain ⟨va, vc, hv, -⟩ := OwnsC.files hov
  have hv' : v = .slice va 1 vc := by
    have h9 : v = .slice va s'.rows.length vc := hv
    rw [HR.out] at h9
    exact h9
  clear hv
  subst hv'
  have hm4 : g'.many = 24 := congrArg Lg.many HS4.out.gf
  have kr := storeRoom_any b s' g' w4 HS4.out.own.at' HS4.out.own.log (HS4.out.ok (by omega) (by omega)).1
  rw [show g'.many - g'.used = 22 by rw [HU.out, hm4]] at kr
  have KR : Hid _ := kr
  clear hov hb4 kr KRO HS3 hm4
  go_wp2_with fail
  refine Calls.mono KR.out ?_
  rintro e w5 ⟨rfl, hb5⟩
  have HB5 : Hid (Below w.heap.size w w5) := (HS4.out.go hb5).below
  clear hb5 KR
  go_wp2
  go_ret
  exact ⟨rfl, HB5.out⟩
end Go.Proofs.Ytihnghnafpgdfab
