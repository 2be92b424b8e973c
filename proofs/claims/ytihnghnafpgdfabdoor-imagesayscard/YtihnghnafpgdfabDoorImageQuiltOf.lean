/-
  THE DOCUMENT's QUILT OF ROWS: QuiltOf.
-/
import Derived.Test.YtihnghnafpgdfabDoorImageQuiltM
import Derived.Deep.DeepCutAuto
namespace Go.Proofs.YtihnghnafpgdfabDoor
open Go Go.RowKit Go.BigFrame
set_option linter.unusedVariables false
set_option linter.unusedSimpArgs false


set_option maxRecDepth 100000 in
set_option maxHeartbeats 8000000 in
theorem quiltOf_any (pa : Option Addr) (ca : Nat) (rows : List Ch) (w : World) (h1 : rows.length ≤ 100) (hz : ∀ c ∈ rows, c.key.size ≤ 100 ∧ c.val.size ≤ 100) (hc : CC w pa rows) :
    Calls Tryd.prog 14 #[.slice pa rows.length ca] w (QOut w rows) := by
  obtain ⟨i0, hi, hz0, hz1, hz2⟩ := info_parts Tryd.infoFile
  have HC : Hid (CC w pa rows) := hc
  have HZ : Hid (∀ c ∈ rows, c.key.size ≤ 100 ∧ c.val.size ≤ 100) := hz
  clear hc hz
  go_enter Tryd.func14, Tryd.ntmps14
  go_wp2_with fail
  obtain ⟨W1, hW⟩ : ∃ x, x = (w.alloc (.cells #[.slice none 0 0, .int .i64 0] 24)).alloc (.cells #[.slice none 0 0, .int .i64 0] 24) := ⟨_, rfl⟩
  have HB1 : Hid (Below w.heap.size w W1) := by rw [hW]; exact ((Below.refl _ _).alloc (Nat.le_refl _) _).alloc (by simp) _
  have HQ0 : Hid (QBox W1 w.heap.size (.slice none 0 0) 0) := by rw [hW]; exact (QBox.new w _ 0 _).alloc _
  have HM1 : Hid (QM W1 (w.heap.size + 1) [] 0) := by
    rw [hW]
    have h := QBox.new (w.alloc (.cells #[.slice none 0 0, .int .i64 0] 24)) (.slice none 0 0) 0 24
    rw [World.size_alloc] at h
    exact ⟨none, 0, h, World.ownsRow_nil _ _ _ _⟩
  rw [← hW]
  clear hW
  go_loopg [5] (rows.length + 1) (fun kx vi wr => ∃ (i : Nat) (fs : List Fi) (t : Int), vi = .int .i64 i ∧ i ≤ rows.length ∧ rows.length - i ≤ kx ∧ Hid (Qs rows i fs t) ∧ fs.length ≤ i ∧ Hid (QM wr (w.heap.size + 1) fs t) ∧ Hid (QBox wr w.heap.size (.slice none 0 0) 0) ∧ Hid (Below w.heap.size w wr))
  case atStart => exact ⟨0, [], 0, rfl, by omega, by omega, Qs.nil rows, by simp, HM1, HQ0, HB1⟩
  case round =>
    obtain ⟨i, fs, t, rfl, hi', hkx, HQS, hfl, HM, HQ, HW0⟩ := hrel
    obtain ⟨W0, rfl⟩ : ∃ x, x = wr := ⟨wr, rfl⟩
    by_cases hlt : i < rows.length
    · obtain ⟨b, off, rfl, c0, c1, c2⟩ := HC.out.below HW0.out i hlt
      obtain ⟨z1, z2⟩ := HZ.out _ (List.getElem_mem hlt)
      go_wp2_with fail
      obtain ⟨W2, hW⟩ : ∃ x, x = W0.alloc (.cells #[.string rows[i].key, .string rows[i].val, .bool rows[i].gone] 41) := ⟨_, rfl⟩
      have HB2 : Hid (Below w.heap.size w W2) := by rw [hW]; exact HW0.out.alloc HW0.out.size _
      have HQ2 : Hid (QBox W2 w.heap.size (.slice none 0 0) 0) := by rw [hW]; exact HQ.out.alloc _
      have HM2 : Hid (QM W2 (w.heap.size + 1) fs t) := by rw [hW]; exact HM.out.far ((Below.refl _ _).alloc (Nat.le_refl _) _)
      have e0 : W2.cell? ⟨W0.heap.size, 0, none⟩ = some (.string rows[i].key) := by rw [hW]; simp
      have e1 : W2.cell? ⟨W0.heap.size, 1, none⟩ = some (.string rows[i].val) := by rw [hW]; simp
      have e2 : W2.cell? ⟨W0.heap.size, 2, none⟩ = some (.bool rows[i].gone) := by rw [hW]; simp
      have hlt2 : W0.heap.size < W2.heap.size := by rw [hW]; simp
      rw [← hW]
      clear hW c0 c1 c2 HM HQ HW0
      have some' := Later.ne W2
      have p0 := Later.cell e0
      have p1 := Later.cell e1
      have p2 := Later.cell e2
      clear e0 e1 e2
      have HNO1 : Hid (¬ RowOk rows[i] → NoImg rows) := fun h l s hi => h (hi.ok i hlt)
      rcases Nat.eq_zero_or_pos i with h0 | h0
      · have hd : decide ((0 : Int) < (i : Int)) = false := by simp [h0]
        have hd' : decide (0 < i) = false := by simp [h0]
        have HR : Hid (Rs rows i hlt) := fun h => by omega
        clear h0
        cases hG : rows[i].gone
        · by_cases h4 : 4 ≤ rows[i].val.size
          · have hd4 : decide ((rows[i].val.size : Int) < 4) = false := decide_eq_false (by omega)
            by_cases hK : rows[i].key.size = 0
            · have HNO : Hid (NoImg rows) := HNO1.out (fun h => h.key hK)
              have hK2 : rows[i].key = ⟨#[]⟩ := empty_of_size hK
              rw [hG] at p2
              rw [hK2] at p0
              go_wp2_with fail
              refine wp_region_later (by kernel_rfl) (by kernel_rfl) ?_
              repeat (go_big_quiet_step (fail))
              refine wpQuiet_nil ?_
              rintro _ ⟨p, rfl⟩
              obtain ⟨r0, r1, rf0, rf1, rl, _⟩ := HQ2.out.below p.h HQ2.out.lt
              have HB3 : Hid (Below w.heap.size w p.W) := HB2.out.trans (p.h.mono HB2.out.size)
              generalize p.W = W3 at *
              go_wp2
              refine bodyPost_ret (v := .tuple #[.agg #[.slice none 0 0, .int .i64 0], .int .i64 4]) (by simp [results, Tryd.results14, go_sem, r0, r1, rl]) rfl (.inr ⟨HNO.out, rfl, ?_⟩)
              exact (HB3.out.setCell (p := ⟨w.heap.size, 0, none⟩) (Nat.le_refl _) _).setCell (p := ⟨w.heap.size, 1, none⟩) (Nat.le_refl _) _
            · have hK2 := key_ne hK
              rw [hG] at p2
              go_wp2_with fail
              refine wp_region_later (by kernel_rfl) (by kernel_rfl) ?_
              repeat (go_big_quiet_step (fail))
              refine wpQuiet_nil ?_
              rintro _ ⟨p, rfl⟩
              have HB3 : Hid (Below w.heap.size w p.W) := HB2.out.trans (p.h.mono HB2.out.size)
              have HQ3 : Hid (QBox p.W w.heap.size (.slice none 0 0) 0) := HQ2.out.below p.h HQ2.out.lt
              have HM3 : Hid (QM p.W (w.heap.size + 1) fs t) := HM2.out.far p.h
              have HE3 : Hid (p.W.cell? ⟨W0.heap.size, 0, none⟩ = some (.string rows[i].key) ∧ p.W.cell? ⟨W0.heap.size, 1, none⟩ = some (.string rows[i].val) ∧ W0.heap.size < p.W.heap.size) := ⟨p0 p, p1 p, Nat.lt_of_lt_of_le hlt2 p.h.size⟩
              clear p0 p1 p2 some' hd4 HQ2 HM2 HB2 hlt2
              generalize p.W = W3 at *
              clear p
              go_wp2_with fail
              go_loopg [8, 7] 5 (fun ky vk vn wr2 => ∃ k n : Nat, vk = .int .i64 k ∧ vn = .int .i64 n ∧ k ≤ 4 ∧ 4 - k ≤ ky ∧ Hid (n = pre rows[i].val.data.toList k) ∧ Hid (n < 10 ^ k) ∧ Hid (∀ j (h : j < rows[i].val.size), j < k → digB rows[i].val[j] = true) ∧ Hid (Below W3.heap.size W3 wr2))
              case atStart => exact ⟨0, 0, rfl, rfl, by omega, by omega, rfl, (by show (0 : Nat) < 10 ^ 0; decide), fun j h h2 => by omega, Below.refl _ _⟩
              case round =>
                obtain ⟨k, n, rfl, rfl, hk4, hky, HN, HNL, HD, HB4⟩ := hrel
                obtain ⟨e0, e1, elt⟩ := HE3.out
                rw [← HB4.out.cell elt] at e0 e1
                by_cases hk : k < 4
                · have hks : k < rows[i].val.size := by omega
                  have hkz : (k : Int) < (rows[i].val.size : Int) := by omega
                  have hn3 : n < 1000 := Nat.lt_of_lt_of_le HNL.out (Nat.pow_le_pow_right (n := 10) (by decide) (show k ≤ 3 by omega))
                  have hHNO : Hid (digB rows[i].val[k] = false → NoImg rows) := fun h => HNO1.out (fun ho => by rw [ho.dig k hks hk] at h; cases h)
                  have hby := rows[i].val[k].toNat_lt
                  by_cases hb1 : rows[i].val[k].toNat < 48
                  · have HNO : Hid (NoImg rows) := hHNO.out (by unfold digB; simp; omega)
                    have hd1 : decide ((rows[i].val[k].toNat : Int) < 48) = true := decide_eq_true (by omega)
                    obtain ⟨r0, r1, rf0, rf1, rl, _⟩ := HQ3.out.below HB4.out HQ3.out.lt
                    have HB5 : Hid (Below w.heap.size w wr) := HB3.out.trans (HB4.out.mono HB3.out.size)
                    go_wp2
                    refine bodyPost_ret (v := .tuple #[.agg #[.slice none 0 0, .int .i64 0], .int .i64 4]) (by simp [results, Tryd.results14, go_sem, r0, r1, rl]) rfl (.inr ⟨HNO.out, rfl, ?_⟩)
                    exact (HB5.out.setCell (p := ⟨w.heap.size, 0, none⟩) (Nat.le_refl _) _).setCell (p := ⟨w.heap.size, 1, none⟩) (Nat.le_refl _) _
                  · have hd1 : decide ((rows[i].val[k].toNat : Int) < 48) = false := decide_eq_false (by omega)
                    by_cases hb2 : 57 < rows[i].val[k].toNat
                    · have HNO : Hid (NoImg rows) := hHNO.out (by unfold digB; simp; omega)
                      have hd2 : decide (57 < (rows[i].val[k].toNat : Int)) = true := decide_eq_true (by omega)
                      obtain ⟨r0, r1, rf0, rf1, rl, _⟩ := HQ3.out.below HB4.out HQ3.out.lt
                      have HB5 : Hid (Below w.heap.size w wr) := HB3.out.trans (HB4.out.mono HB3.out.size)
                      go_wp2
                      refine bodyPost_ret (v := .tuple #[.agg #[.slice none 0 0, .int .i64 0], .int .i64 4]) (by simp [results, Tryd.results14, go_sem, r0, r1, rl]) rfl (.inr ⟨HNO.out, rfl, ?_⟩)
                      exact (HB5.out.setCell (p := ⟨w.heap.size, 0, none⟩) (Nat.le_refl _) _).setCell (p := ⟨w.heap.size, 1, none⟩) (Nat.le_refl _) _
                    · have hd2 : decide (57 < (rows[i].val[k].toNat : Int)) = false := decide_eq_false (by omega)
                      have hu8 : IntKind.u8.wrap ((rows[i].val[k].toNat : Int) - 48) = (rows[i].val[k].toNat : Int) - 48 := by rw [IntKind.wrap_u8]; omega
                      have hu64 : IntKind.i64.wrap (10 * (n : Int) + ((rows[i].val[k].toNat : Int) - 48)) = 10 * (n : Int) + ((rows[i].val[k].toNat : Int) - 48) := by rw [IntKind.wrap_i64]; omega
                      have HN5 : Hid (10 * n + (rows[i].val[k].toNat - 48) = pre rows[i].val.data.toList (k + 1)) := by
                        show _ = _
                        rw [HN.out]
                        exact (pre_step hks).symm
                      have HNL5 : Hid (10 * n + (rows[i].val[k].toNat - 48) < 10 ^ (k + 1)) := by
                        show _ < _
                        have := HNL.out
                        rw [Nat.pow_succ]
                        omega
                      have HD5 : Hid (∀ j (h : j < rows[i].val.size), j < k + 1 → digB rows[i].val[j] = true) := fun j h h2 => by
                        rcases Nat.lt_or_ge j k with h3 | h3
                        · exact HD.out j h h3
                        · obtain rfl : j = k := by omega
                          unfold digB
                          simp
                          omega
                      go_wp2
                      go_roundg (4 - (k + 1))
                      case measure => omega
                      case rel => exact ⟨k + 1, 10 * n + (rows[i].val[k].toNat - 48), by go_num, by go_num, by omega, by omega, HN5, HNL5, HD5, HB4⟩
                · obtain rfl : k = 4 := by omega
                  have HD4 : Hid (∀ j (h : j < rows[i].val.size), j < 4 → digB rows[i].val[j] = true) := HD.out
                  have hkp : 0 < rows[i].key.size := by omega
                  have hkp2 : (0 : Int) < (rows[i].key.size : Int) := by omega
                  have hkp1 : (1 : Int) ≤ (rows[i].key.size : Int) := by omega
                  have hkp4 : (4 : Int) ≤ (rows[i].val.size : Int) := by omega
                  have HB5 : Hid (Below w.heap.size w wr) := HB3.out.trans (HB4.out.mono HB3.out.size)
                  have HM5 : Hid (QM wr (w.heap.size + 1) fs t) := HM3.out.far HB4.out
                  have HQ5 : Hid (QBox wr w.heap.size (.slice none 0 0) 0) := HQ3.out.below HB4.out HQ3.out.lt
                  have HLR : Hid (W0.heap.size < wr.heap.size) := Nat.lt_of_lt_of_le elt HB4.out.size
                  have HK0 : Hid (rows[i].key[0].toNat = 102 → ∃ r, rows[i].key.data.toList = 102 :: r) := fun h => head_of hkp h
                  have HK1 : Hid (¬ rows[i].key[0].toNat = 102 → ¬ ∃ r, rows[i].key.data.toList = 102 :: r) := fun h ⟨r, hr⟩ => h (head_is hkp hr)
                  clear HM3 HQ3 HE3 HB3 HD HNL
                  by_cases hkt : rows[i].key.toList = [116, 117, 114, 110]
                  · have hkturn : Hid (rows[i].key = kturn) := toList_inj (by rw [hkt, kturn_list])
                    by_cases h44 : rows[i].val.size = 4
                    · have hk4 : ((rows[i].val.size : Int) == 4) = true := by rw [beq_iff_eq]; omega
                      have HQS5 : Hid (Qs rows (i + 1) fs (n : Nat)) := by
                        show Qs _ _ _ _
                        rw [HN.out]
                        exact HQS.out.turn hlt HR.out hG h44 HD4.out hkturn.out
                      obtain ⟨va, vc, hqb, how⟩ := HM5.out
                      obtain ⟨x0, x1, xf0, xf1, xl, _⟩ := hqb
                      clear how h44
                      go_wp2
                      go_roundg (rows.length - (i + 1))
                      case measure => omega
                      case rel => exact ⟨i + 1, fs, n, by go_num, hlt, Nat.le_refl _, HQS5, by omega, HM5.out.turned, HQ5.out.apart (by omega), HB5.out.setCell (p := ⟨w.heap.size + 1, 1, none⟩) (Nat.le_succ _) _⟩
                    · have hk4 : ((rows[i].val.size : Int) == 4) = false := by rw [beq_eq_false_iff_ne]; omega
                      have hnf : ¬ rows[i].key[0].toNat = 102 := fun h => by
                        obtain ⟨r, hr⟩ := HK0.out h
                        rw [ba_toList, hr] at hkt
                        simp at hkt
                      have hkb : ((rows[i].key[0].toNat : Int) == 102) = false := by rw [beq_eq_false_iff_ne]; omega
                      have HNO : Hid (NoImg rows) := HNO1.out (fun h => by
                        rcases h.kind with ⟨_, h5⟩ | h5
                        · exact h44 h5
                        · exact HK1.out hnf h5)
                      clear hnf
                      obtain ⟨r0, r1, rf0, rf1, rl, _⟩ := HQ5.out
                      go_wp2
                      refine bodyPost_ret (v := .tuple #[.agg #[.slice none 0 0, .int .i64 0], .int .i64 4]) (by simp [results, Tryd.results14, go_sem, r0, r1, rl]) rfl (.inr ⟨HNO.out, rfl, ?_⟩)
                      exact (HB5.out.setCell (p := ⟨w.heap.size, 0, none⟩) (Nat.le_refl _) _).setCell (p := ⟨w.heap.size, 1, none⟩) (Nat.le_refl _) _
                  · by_cases hf : rows[i].key[0].toNat = 102
                    · have hkb : ((rows[i].key[0].toNat : Int) == 102) = true := by rw [beq_iff_eq]; omega
                      obtain ⟨r, hr⟩ := HK0.out hf
                      have HQS5 : Hid (Qs rows (i + 1) (fs ++ [fileOf rows[i]]) t) := HQS.out.file hlt HR.out hG h4 HD4.out hr
                      have HFO : Hid (fileOf rows[i] = ⟨rows[i].key.extract 1 rows[i].key.size, rows[i].val.extract 4 rows[i].val.size, (n : Nat)⟩) := by
                        show _ = _
                        rw [HN.out]
                        rfl
                      clear hr hf
                      obtain ⟨va, vc, hqb, how⟩ := HM5.out
                      have HQB : Hid (QBox wr (w.heap.size + 1) (.slice va fs.length vc) t) := hqb
                      have HOW0 : Hid (Owns wr (w.heap.size + 2) (.slice va fs.length vc) fs) := how
                      have HOW : Hid (∀ W, Below wr.heap.size wr W → Owns W (w.heap.size + 2) (.slice va fs.length vc) fs) := fun W h => rowI_far HOW0.out h
                      have HEND : Hid (∀ W W9 v9, Below wr.heap.size wr W → W.grownBy W9 (Value.slice va fs.length vc).ownBlock → W9.ownsRow (w.heap.size + 2) 53 3 v9 (fs.length + 1) (flat fs ++ [.string (rows[i].key.extract 1 rows[i].key.size), .string (rows[i].val.extract 4 rows[i].val.size), .int .i64 n]) →
                          QBox W9 (w.heap.size + 1) (.slice va fs.length vc) t ∧ QM (W9.setCell ⟨w.heap.size + 1, 0, none⟩ v9) (w.heap.size + 1) (fs ++ [fileOf rows[i]]) t ∧ QBox (W9.setCell ⟨w.heap.size + 1, 0, none⟩ v9) w.heap.size (.slice none 0 0) 0 ∧ Below w.heap.size w (W9.setCell ⟨w.heap.size + 1, 0, none⟩ v9)) := fun W W9 v9 hb hg ho => by
                        have hlt9 : ∀ k, (Value.slice va fs.length vc).ownBlock = some k → w.heap.size + 2 ≤ k := fun k hk => (HOW0.out.lt k hk).1
                        have q9 := (HQB.out.below hb HQB.out.lt).grown hg hlt9
                        have r9 := (HQ5.out.below hb HQ5.out.lt).grown hg (fun k hk => by have := hlt9 k hk; omega)
                        have b9 := (HB5.out.trans (hb.mono HB5.out.size)).grown hg (Nat.le_trans HB5.out.size hb.size) (fun k hk => by have := hlt9 k hk; omega)
                        have o9 : Owns W9 (w.heap.size + 2) v9 (fs ++ [fileOf rows[i]]) := by rw [HFO.out]; exact Owns.snoc (f := ⟨rows[i].key.extract 1 rows[i].key.size, rows[i].val.extract 4 rows[i].val.size, (n : Nat)⟩) ho
                        obtain ⟨xa, xc, hx⟩ := rowI_shape o9
                        refine ⟨q9, ⟨xa, xc, by rw [← hx]; exact q9.files, by rw [← hx]; exact ownsRow_setCell_below o9 (by simp) _⟩, r9.apart (by omega), b9.setCell (p := ⟨w.heap.size + 1, 0, none⟩) (Nat.le_succ _) _⟩
                      obtain ⟨x0, x1, xf0, xf1, xl, _⟩ := hqb
                      have hlo5 : w.heap.size + 2 ≤ wr.heap.size := by omega
                      have hl100 : fs.length ≤ 100 := by omega
                      clear how
                      have hbX : Hid (∀ o, Below wr.heap.size wr (wr.drew.alloc o)) := fun o => ((Below.refl _ _).drew).alloc (Nat.le_refl _) o
                      have hloa : Hid (∀ o, w.heap.size + 2 ≤ (wr.drew.alloc o).heap.size) := fun o => Nat.le_trans hlo5 (hbX.out o).size
                      have h63 : fs.length + 1 ≤ maxLen := by unfold maxLen; omega
                      have hby : (fs.length + 1) * 40 ≤ 140737488355328 := by omega
                      clear HOW0
                      go_wp2_with fail
                      go_region_law
                        (first
                          | (rw [if_pos (by rfl)]
                             refine wp_append_new _ _ 22 rfl (w.heap.size + 2) 53 i0 _ 3 40 Tryd.underlying22 hi hz0 hz1 hz2 rfl (by decide) (.slice va fs.length vc) fs.length (flat fs) rfl (HOW.out _ (hbX.out _)) ⟨wr.heap.size, 0, none⟩ 1 1 [.string (rows[i].key.extract 1 rows[i].key.size), .string (rows[i].val.extract 4 rows[i].val.size), .int .i64 n] rfl rfl (cell_three_new _ _ _ _ _) (three_one ⟨rows[i].key.extract 1 rows[i].key.size, rows[i].val.extract 4 rows[i].val.size, (n : Nat)⟩) h63 hby (hloa.out _) ?_
                             intro v9 W9 hown9 hgrow9 hnew9
                             obtain ⟨xa, xc, rfl⟩ := rowI_shape hown9
                             obtain ⟨hy, hA⟩ := HEND.out _ _ _ (hbX.out _) hgrow9 hown9
                             have HA : Hid _ := hA
                             obtain ⟨y0, y1, yf0, yf1, yl, _⟩ := hy
                             clear hown9 hgrow9 hnew9 hA))
                      all_goals
                        go_wp2
                        go_roundg (rows.length - (i + 1))
                        case measure => omega
                        case rel => exact ⟨i + 1, fs ++ [fileOf rows[i]], t, by go_num, hlt, Nat.le_refl _, HQS5, (by simp; omega), HA.out.1, HA.out.2.1, HA.out.2.2⟩
                    · have hkb : ((rows[i].key[0].toNat : Int) == 102) = false := by rw [beq_eq_false_iff_ne]; omega
                      have HNO : Hid (NoImg rows) := HNO1.out (fun h => by
                        rcases h.kind with ⟨h5, _⟩ | h5
                        · exact hkt (by have h6 := congrArg ByteArray.toList h5; rw [kturn_list] at h6; exact h6)
                        · exact HK1.out hf h5)
                      clear hf
                      obtain ⟨r0, r1, rf0, rf1, rl, _⟩ := HQ5.out
                      go_wp2
                      refine bodyPost_ret (v := .tuple #[.agg #[.slice none 0 0, .int .i64 0], .int .i64 4]) (by simp [results, Tryd.results14, go_sem, r0, r1, rl]) rfl (.inr ⟨HNO.out, rfl, ?_⟩)
                      exact (HB5.out.setCell (p := ⟨w.heap.size, 0, none⟩) (Nat.le_refl _) _).setCell (p := ⟨w.heap.size, 1, none⟩) (Nat.le_refl _) _
          · have HNO : Hid (NoImg rows) := HNO1.out (fun h => h4 h.long)
            have hd4 : decide ((rows[i].val.size : Int) < 4) = true := decide_eq_true (by omega)
            rw [hG] at p2
            go_wp2_with fail
            refine wp_region_later (by kernel_rfl) (by kernel_rfl) ?_
            repeat (go_big_quiet_step (fail))
            refine wpQuiet_nil ?_
            rintro _ ⟨p, rfl⟩
            obtain ⟨r0, r1, rf0, rf1, rl, _⟩ := HQ2.out.below p.h HQ2.out.lt
            have HB3 : Hid (Below w.heap.size w p.W) := HB2.out.trans (p.h.mono HB2.out.size)
            generalize p.W = W3 at *
            go_wp2
            refine bodyPost_ret (v := .tuple #[.agg #[.slice none 0 0, .int .i64 0], .int .i64 4]) (by simp [results, Tryd.results14, go_sem, r0, r1, rl]) rfl (.inr ⟨HNO.out, rfl, ?_⟩)
            exact (HB3.out.setCell (p := ⟨w.heap.size, 0, none⟩) (Nat.le_refl _) _).setCell (p := ⟨w.heap.size, 1, none⟩) (Nat.le_refl _) _
        · have HNO : Hid (NoImg rows) := HNO1.out (fun h => by rw [h.here] at hG; cases hG)
          rw [hG] at p2
          go_wp2_with fail
          refine wp_region_later (by kernel_rfl) (by kernel_rfl) ?_
          repeat (go_big_quiet_step (fail))
          refine wpQuiet_nil ?_
          rintro _ ⟨p, rfl⟩
          obtain ⟨r0, r1, rf0, rf1, rl, _⟩ := HQ2.out.below p.h HQ2.out.lt
          have HB3 : Hid (Below w.heap.size w p.W) := HB2.out.trans (p.h.mono HB2.out.size)
          generalize p.W = W3 at *
          go_wp2
          refine bodyPost_ret (v := .tuple #[.agg #[.slice none 0 0, .int .i64 0], .int .i64 4]) (by simp [results, Tryd.results14, go_sem, r0, r1, rl]) rfl (.inr ⟨HNO.out, rfl, ?_⟩)
          exact (HB3.out.setCell (p := ⟨w.heap.size, 0, none⟩) (Nat.le_refl _) _).setCell (p := ⟨w.heap.size, 1, none⟩) (Nat.le_refl _) _
      · have hd : decide ((0 : Int) < (i : Int)) = true := by simp; omega
        have hd' : decide (0 < i) = true := by simp; omega
        obtain ⟨j, HJ⟩ : ∃ j, Hid (i = j + 1) := ⟨i - 1, show i = i - 1 + 1 by omega⟩
        have hj1 : ((i : Int) - 1) = (j : Int) := by have := HJ.out; omega
        have hj2 : j < rows.length := by have := HJ.out; omega
        obtain ⟨_, _, e, d0, d1, d2⟩ := HC.out.below HB2.out j hj2
        cases e
        have q0 := Later.cell d0
        clear d0 d1 d2
        have HNO2 : Hid (ltB rows[j].key rows[i].key = false → NoImg rows) := fun h l s hi => by
          have h3 := hi.rise i h0 hlt
          have e9 : i - 1 = j := by have := HJ.out; omega
          simp only [e9] at h3
          rw [h] at h3
          cases h3
        have HR0 : Hid (ltB rows[j].key rows[i].key = true → Rs rows i hlt) := fun h h0 => by
          have e9 : i - 1 = j := by have := HJ.out; omega
          simp only [e9]
          exact h
        clear h0
        cases hlb : ltB rows[j].key rows[i].key
        · have hle : (Op.bytesLess rows[i].key.toList rows[j].key.toList || rows[i].key.toList == rows[j].key.toList) = true := by rw [leqB, hlb]; rfl
          have HNO : Hid (NoImg rows) := HNO2.out hlb
          clear hlb HR0 HNO2
          go_wp2_with fail
          refine wp_region_later (by kernel_rfl) (by kernel_rfl) ?_
          repeat (go_big_quiet_step (fail))
          refine wpQuiet_nil ?_
          rintro _ ⟨p, rfl⟩
          obtain ⟨r0, r1, rf0, rf1, rl, _⟩ := HQ2.out.below p.h HQ2.out.lt
          have HB3 : Hid (Below w.heap.size w p.W) := HB2.out.trans (p.h.mono HB2.out.size)
          generalize p.W = W3 at *
          go_wp2
          refine bodyPost_ret (v := .tuple #[.agg #[.slice none 0 0, .int .i64 0], .int .i64 4]) (by simp [results, Tryd.results14, go_sem, r0, r1, rl]) rfl (.inr ⟨HNO.out, rfl, ?_⟩)
          exact (HB3.out.setCell (p := ⟨w.heap.size, 0, none⟩) (Nat.le_refl _) _).setCell (p := ⟨w.heap.size, 1, none⟩) (Nat.le_refl _) _
        · have hle : (Op.bytesLess rows[i].key.toList rows[j].key.toList || rows[i].key.toList == rows[j].key.toList) = false := by rw [leqB, hlb]; rfl
          have HR : Hid (Rs rows i hlt) := HR0.out hlb
          have HKE : Hid (rows[i].key.size = 0 → False) := fun h => by
            rw [empty_of_size h] at hlb
            unfold ltB at hlb
            rw [ba_toList (⟨#[]⟩ : ByteArray)] at hlb
            cases hx : rows[j].key.toList <;> rw [hx] at hlb <;> exact absurd hlb (by simp [Op.bytesLess])
          clear hlb HR0 HNO2
          cases hG : rows[i].gone
          · by_cases h4 : 4 ≤ rows[i].val.size
            · have hd4 : decide ((rows[i].val.size : Int) < 4) = false := decide_eq_false (by omega)
              by_cases hK : rows[i].key.size = 0
              · exact (HKE.out hK).elim
              · have hK2 := key_ne hK
                rw [hG] at p2
                go_wp2_with fail
                refine wp_region_later (by kernel_rfl) (by kernel_rfl) ?_
                repeat (go_big_quiet_step (fail))
                refine wpQuiet_nil ?_
                rintro _ ⟨p, rfl⟩
                have HB3 : Hid (Below w.heap.size w p.W) := HB2.out.trans (p.h.mono HB2.out.size)
                have HQ3 : Hid (QBox p.W w.heap.size (.slice none 0 0) 0) := HQ2.out.below p.h HQ2.out.lt
                have HM3 : Hid (QM p.W (w.heap.size + 1) fs t) := HM2.out.far p.h
                have HE3 : Hid (p.W.cell? ⟨W0.heap.size, 0, none⟩ = some (.string rows[i].key) ∧ p.W.cell? ⟨W0.heap.size, 1, none⟩ = some (.string rows[i].val) ∧ W0.heap.size < p.W.heap.size) := ⟨p0 p, p1 p, Nat.lt_of_lt_of_le hlt2 p.h.size⟩
                clear p0 p1 p2 some' hd4 HQ2 HM2 HB2 hlt2
                generalize p.W = W3 at *
                clear p
                go_wp2_with fail
                go_loopg [8, 7] 5 (fun ky vk vn wr2 => ∃ k n : Nat, vk = .int .i64 k ∧ vn = .int .i64 n ∧ k ≤ 4 ∧ 4 - k ≤ ky ∧ Hid (n = pre rows[i].val.data.toList k) ∧ Hid (n < 10 ^ k) ∧ Hid (∀ j (h : j < rows[i].val.size), j < k → digB rows[i].val[j] = true) ∧ Hid (Below W3.heap.size W3 wr2))
                case atStart => exact ⟨0, 0, rfl, rfl, by omega, by omega, rfl, (by show (0 : Nat) < 10 ^ 0; decide), fun j h h2 => by omega, Below.refl _ _⟩
                case round =>
                  obtain ⟨k, n, rfl, rfl, hk4, hky, HN, HNL, HD, HB4⟩ := hrel
                  obtain ⟨e0, e1, elt⟩ := HE3.out
                  rw [← HB4.out.cell elt] at e0 e1
                  by_cases hk : k < 4
                  · have hks : k < rows[i].val.size := by omega
                    have hkz : (k : Int) < (rows[i].val.size : Int) := by omega
                    have hn3 : n < 1000 := Nat.lt_of_lt_of_le HNL.out (Nat.pow_le_pow_right (n := 10) (by decide) (show k ≤ 3 by omega))
                    have hHNO : Hid (digB rows[i].val[k] = false → NoImg rows) := fun h => HNO1.out (fun ho => by rw [ho.dig k hks hk] at h; cases h)
                    have hby := rows[i].val[k].toNat_lt
                    by_cases hb1 : rows[i].val[k].toNat < 48
                    · have HNO : Hid (NoImg rows) := hHNO.out (by unfold digB; simp; omega)
                      have hd1 : decide ((rows[i].val[k].toNat : Int) < 48) = true := decide_eq_true (by omega)
                      obtain ⟨r0, r1, rf0, rf1, rl, _⟩ := HQ3.out.below HB4.out HQ3.out.lt
                      have HB5 : Hid (Below w.heap.size w wr) := HB3.out.trans (HB4.out.mono HB3.out.size)
                      go_wp2
                      refine bodyPost_ret (v := .tuple #[.agg #[.slice none 0 0, .int .i64 0], .int .i64 4]) (by simp [results, Tryd.results14, go_sem, r0, r1, rl]) rfl (.inr ⟨HNO.out, rfl, ?_⟩)
                      exact (HB5.out.setCell (p := ⟨w.heap.size, 0, none⟩) (Nat.le_refl _) _).setCell (p := ⟨w.heap.size, 1, none⟩) (Nat.le_refl _) _
                    · have hd1 : decide ((rows[i].val[k].toNat : Int) < 48) = false := decide_eq_false (by omega)
                      by_cases hb2 : 57 < rows[i].val[k].toNat
                      · have HNO : Hid (NoImg rows) := hHNO.out (by unfold digB; simp; omega)
                        have hd2 : decide (57 < (rows[i].val[k].toNat : Int)) = true := decide_eq_true (by omega)
                        obtain ⟨r0, r1, rf0, rf1, rl, _⟩ := HQ3.out.below HB4.out HQ3.out.lt
                        have HB5 : Hid (Below w.heap.size w wr) := HB3.out.trans (HB4.out.mono HB3.out.size)
                        go_wp2
                        refine bodyPost_ret (v := .tuple #[.agg #[.slice none 0 0, .int .i64 0], .int .i64 4]) (by simp [results, Tryd.results14, go_sem, r0, r1, rl]) rfl (.inr ⟨HNO.out, rfl, ?_⟩)
                        exact (HB5.out.setCell (p := ⟨w.heap.size, 0, none⟩) (Nat.le_refl _) _).setCell (p := ⟨w.heap.size, 1, none⟩) (Nat.le_refl _) _
                      · have hd2 : decide (57 < (rows[i].val[k].toNat : Int)) = false := decide_eq_false (by omega)
                        have hu8 : IntKind.u8.wrap ((rows[i].val[k].toNat : Int) - 48) = (rows[i].val[k].toNat : Int) - 48 := by rw [IntKind.wrap_u8]; omega
                        have hu64 : IntKind.i64.wrap (10 * (n : Int) + ((rows[i].val[k].toNat : Int) - 48)) = 10 * (n : Int) + ((rows[i].val[k].toNat : Int) - 48) := by rw [IntKind.wrap_i64]; omega
                        have HN5 : Hid (10 * n + (rows[i].val[k].toNat - 48) = pre rows[i].val.data.toList (k + 1)) := by
                          show _ = _
                          rw [HN.out]
                          exact (pre_step hks).symm
                        have HNL5 : Hid (10 * n + (rows[i].val[k].toNat - 48) < 10 ^ (k + 1)) := by
                          show _ < _
                          have := HNL.out
                          rw [Nat.pow_succ]
                          omega
                        have HD5 : Hid (∀ j (h : j < rows[i].val.size), j < k + 1 → digB rows[i].val[j] = true) := fun j h h2 => by
                          rcases Nat.lt_or_ge j k with h3 | h3
                          · exact HD.out j h h3
                          · obtain rfl : j = k := by omega
                            unfold digB
                            simp
                            omega
                        go_wp2
                        go_roundg (4 - (k + 1))
                        case measure => omega
                        case rel => exact ⟨k + 1, 10 * n + (rows[i].val[k].toNat - 48), by go_num, by go_num, by omega, by omega, HN5, HNL5, HD5, HB4⟩
                  · obtain rfl : k = 4 := by omega
                    have HD4 : Hid (∀ j (h : j < rows[i].val.size), j < 4 → digB rows[i].val[j] = true) := HD.out
                    have hkp : 0 < rows[i].key.size := by omega
                    have hkp2 : (0 : Int) < (rows[i].key.size : Int) := by omega
                    have hkp1 : (1 : Int) ≤ (rows[i].key.size : Int) := by omega
                    have hkp4 : (4 : Int) ≤ (rows[i].val.size : Int) := by omega
                    have HB5 : Hid (Below w.heap.size w wr) := HB3.out.trans (HB4.out.mono HB3.out.size)
                    have HM5 : Hid (QM wr (w.heap.size + 1) fs t) := HM3.out.far HB4.out
                    have HQ5 : Hid (QBox wr w.heap.size (.slice none 0 0) 0) := HQ3.out.below HB4.out HQ3.out.lt
                    have HLR : Hid (W0.heap.size < wr.heap.size) := Nat.lt_of_lt_of_le elt HB4.out.size
                    have HK0 : Hid (rows[i].key[0].toNat = 102 → ∃ r, rows[i].key.data.toList = 102 :: r) := fun h => head_of hkp h
                    have HK1 : Hid (¬ rows[i].key[0].toNat = 102 → ¬ ∃ r, rows[i].key.data.toList = 102 :: r) := fun h ⟨r, hr⟩ => h (head_is hkp hr)
                    clear HM3 HQ3 HE3 HB3 HD HNL
                    by_cases hkt : rows[i].key.toList = [116, 117, 114, 110]
                    · have hkturn : Hid (rows[i].key = kturn) := toList_inj (by rw [hkt, kturn_list])
                      by_cases h44 : rows[i].val.size = 4
                      · have hk4 : ((rows[i].val.size : Int) == 4) = true := by rw [beq_iff_eq]; omega
                        have HQS5 : Hid (Qs rows (i + 1) fs (n : Nat)) := by
                          show Qs _ _ _ _
                          rw [HN.out]
                          exact HQS.out.turn hlt HR.out hG h44 HD4.out hkturn.out
                        obtain ⟨va, vc, hqb, how⟩ := HM5.out
                        obtain ⟨x0, x1, xf0, xf1, xl, _⟩ := hqb
                        clear how h44
                        go_wp2
                        go_roundg (rows.length - (i + 1))
                        case measure => omega
                        case rel => exact ⟨i + 1, fs, n, by go_num, hlt, Nat.le_refl _, HQS5, by omega, HM5.out.turned, HQ5.out.apart (by omega), HB5.out.setCell (p := ⟨w.heap.size + 1, 1, none⟩) (Nat.le_succ _) _⟩
                      · have hk4 : ((rows[i].val.size : Int) == 4) = false := by rw [beq_eq_false_iff_ne]; omega
                        have hnf : ¬ rows[i].key[0].toNat = 102 := fun h => by
                          obtain ⟨r, hr⟩ := HK0.out h
                          rw [ba_toList, hr] at hkt
                          simp at hkt
                        have hkb : ((rows[i].key[0].toNat : Int) == 102) = false := by rw [beq_eq_false_iff_ne]; omega
                        have HNO : Hid (NoImg rows) := HNO1.out (fun h => by
                          rcases h.kind with ⟨_, h5⟩ | h5
                          · exact h44 h5
                          · exact HK1.out hnf h5)
                        clear hnf
                        obtain ⟨r0, r1, rf0, rf1, rl, _⟩ := HQ5.out
                        go_wp2
                        refine bodyPost_ret (v := .tuple #[.agg #[.slice none 0 0, .int .i64 0], .int .i64 4]) (by simp [results, Tryd.results14, go_sem, r0, r1, rl]) rfl (.inr ⟨HNO.out, rfl, ?_⟩)
                        exact (HB5.out.setCell (p := ⟨w.heap.size, 0, none⟩) (Nat.le_refl _) _).setCell (p := ⟨w.heap.size, 1, none⟩) (Nat.le_refl _) _
                    · by_cases hf : rows[i].key[0].toNat = 102
                      · have hkb : ((rows[i].key[0].toNat : Int) == 102) = true := by rw [beq_iff_eq]; omega
                        obtain ⟨r, hr⟩ := HK0.out hf
                        have HQS5 : Hid (Qs rows (i + 1) (fs ++ [fileOf rows[i]]) t) := HQS.out.file hlt HR.out hG h4 HD4.out hr
                        have HFO : Hid (fileOf rows[i] = ⟨rows[i].key.extract 1 rows[i].key.size, rows[i].val.extract 4 rows[i].val.size, (n : Nat)⟩) := by
                          show _ = _
                          rw [HN.out]
                          rfl
                        clear hr hf
                        obtain ⟨va, vc, hqb, how⟩ := HM5.out
                        have HQB : Hid (QBox wr (w.heap.size + 1) (.slice va fs.length vc) t) := hqb
                        have HOW0 : Hid (Owns wr (w.heap.size + 2) (.slice va fs.length vc) fs) := how
                        have HOW : Hid (∀ W, Below wr.heap.size wr W → Owns W (w.heap.size + 2) (.slice va fs.length vc) fs) := fun W h => rowI_far HOW0.out h
                        have HEND : Hid (∀ W W9 v9, Below wr.heap.size wr W → W.grownBy W9 (Value.slice va fs.length vc).ownBlock → W9.ownsRow (w.heap.size + 2) 53 3 v9 (fs.length + 1) (flat fs ++ [.string (rows[i].key.extract 1 rows[i].key.size), .string (rows[i].val.extract 4 rows[i].val.size), .int .i64 n]) →
                            QBox W9 (w.heap.size + 1) (.slice va fs.length vc) t ∧ QM (W9.setCell ⟨w.heap.size + 1, 0, none⟩ v9) (w.heap.size + 1) (fs ++ [fileOf rows[i]]) t ∧ QBox (W9.setCell ⟨w.heap.size + 1, 0, none⟩ v9) w.heap.size (.slice none 0 0) 0 ∧ Below w.heap.size w (W9.setCell ⟨w.heap.size + 1, 0, none⟩ v9)) := fun W W9 v9 hb hg ho => by
                          have hlt9 : ∀ k, (Value.slice va fs.length vc).ownBlock = some k → w.heap.size + 2 ≤ k := fun k hk => (HOW0.out.lt k hk).1
                          have q9 := (HQB.out.below hb HQB.out.lt).grown hg hlt9
                          have r9 := (HQ5.out.below hb HQ5.out.lt).grown hg (fun k hk => by have := hlt9 k hk; omega)
                          have b9 := (HB5.out.trans (hb.mono HB5.out.size)).grown hg (Nat.le_trans HB5.out.size hb.size) (fun k hk => by have := hlt9 k hk; omega)
                          have o9 : Owns W9 (w.heap.size + 2) v9 (fs ++ [fileOf rows[i]]) := by rw [HFO.out]; exact Owns.snoc (f := ⟨rows[i].key.extract 1 rows[i].key.size, rows[i].val.extract 4 rows[i].val.size, (n : Nat)⟩) ho
                          obtain ⟨xa, xc, hx⟩ := rowI_shape o9
                          refine ⟨q9, ⟨xa, xc, by rw [← hx]; exact q9.files, by rw [← hx]; exact ownsRow_setCell_below o9 (by simp) _⟩, r9.apart (by omega), b9.setCell (p := ⟨w.heap.size + 1, 0, none⟩) (Nat.le_succ _) _⟩
                        obtain ⟨x0, x1, xf0, xf1, xl, _⟩ := hqb
                        have hlo5 : w.heap.size + 2 ≤ wr.heap.size := by omega
                        have hl100 : fs.length ≤ 100 := by omega
                        clear how
                        have hbX : Hid (∀ o, Below wr.heap.size wr (wr.drew.alloc o)) := fun o => ((Below.refl _ _).drew).alloc (Nat.le_refl _) o
                        have hloa : Hid (∀ o, w.heap.size + 2 ≤ (wr.drew.alloc o).heap.size) := fun o => Nat.le_trans hlo5 (hbX.out o).size
                        have h63 : fs.length + 1 ≤ maxLen := by unfold maxLen; omega
                        have hby : (fs.length + 1) * 40 ≤ 140737488355328 := by omega
                        clear HOW0
                        go_wp2_with fail
                        go_region_law
                          (first
                            | (rw [if_pos (by rfl)]
                               refine wp_append_new _ _ 22 rfl (w.heap.size + 2) 53 i0 _ 3 40 Tryd.underlying22 hi hz0 hz1 hz2 rfl (by decide) (.slice va fs.length vc) fs.length (flat fs) rfl (HOW.out _ (hbX.out _)) ⟨wr.heap.size, 0, none⟩ 1 1 [.string (rows[i].key.extract 1 rows[i].key.size), .string (rows[i].val.extract 4 rows[i].val.size), .int .i64 n] rfl rfl (cell_three_new _ _ _ _ _) (three_one ⟨rows[i].key.extract 1 rows[i].key.size, rows[i].val.extract 4 rows[i].val.size, (n : Nat)⟩) h63 hby (hloa.out _) ?_
                               intro v9 W9 hown9 hgrow9 hnew9
                               obtain ⟨xa, xc, rfl⟩ := rowI_shape hown9
                               obtain ⟨hy, hA⟩ := HEND.out _ _ _ (hbX.out _) hgrow9 hown9
                               have HA : Hid _ := hA
                               obtain ⟨y0, y1, yf0, yf1, yl, _⟩ := hy
                               clear hown9 hgrow9 hnew9 hA))
                        all_goals
                          go_wp2
                          go_roundg (rows.length - (i + 1))
                          case measure => omega
                          case rel => exact ⟨i + 1, fs ++ [fileOf rows[i]], t, by go_num, hlt, Nat.le_refl _, HQS5, (by simp; omega), HA.out.1, HA.out.2.1, HA.out.2.2⟩
                      · have hkb : ((rows[i].key[0].toNat : Int) == 102) = false := by rw [beq_eq_false_iff_ne]; omega
                        have HNO : Hid (NoImg rows) := HNO1.out (fun h => by
                          rcases h.kind with ⟨h5, _⟩ | h5
                          · exact hkt (by have h6 := congrArg ByteArray.toList h5; rw [kturn_list] at h6; exact h6)
                          · exact HK1.out hf h5)
                        clear hf
                        obtain ⟨r0, r1, rf0, rf1, rl, _⟩ := HQ5.out
                        go_wp2
                        refine bodyPost_ret (v := .tuple #[.agg #[.slice none 0 0, .int .i64 0], .int .i64 4]) (by simp [results, Tryd.results14, go_sem, r0, r1, rl]) rfl (.inr ⟨HNO.out, rfl, ?_⟩)
                        exact (HB5.out.setCell (p := ⟨w.heap.size, 0, none⟩) (Nat.le_refl _) _).setCell (p := ⟨w.heap.size, 1, none⟩) (Nat.le_refl _) _
            · have HNO : Hid (NoImg rows) := HNO1.out (fun h => h4 h.long)
              have hd4 : decide ((rows[i].val.size : Int) < 4) = true := decide_eq_true (by omega)
              rw [hG] at p2
              go_wp2_with fail
              refine wp_region_later (by kernel_rfl) (by kernel_rfl) ?_
              repeat (go_big_quiet_step (fail))
              refine wpQuiet_nil ?_
              rintro _ ⟨p, rfl⟩
              obtain ⟨r0, r1, rf0, rf1, rl, _⟩ := HQ2.out.below p.h HQ2.out.lt
              have HB3 : Hid (Below w.heap.size w p.W) := HB2.out.trans (p.h.mono HB2.out.size)
              generalize p.W = W3 at *
              go_wp2
              refine bodyPost_ret (v := .tuple #[.agg #[.slice none 0 0, .int .i64 0], .int .i64 4]) (by simp [results, Tryd.results14, go_sem, r0, r1, rl]) rfl (.inr ⟨HNO.out, rfl, ?_⟩)
              exact (HB3.out.setCell (p := ⟨w.heap.size, 0, none⟩) (Nat.le_refl _) _).setCell (p := ⟨w.heap.size, 1, none⟩) (Nat.le_refl _) _
          · have HNO : Hid (NoImg rows) := HNO1.out (fun h => by rw [h.here] at hG; cases hG)
            rw [hG] at p2
            go_wp2_with fail
            refine wp_region_later (by kernel_rfl) (by kernel_rfl) ?_
            repeat (go_big_quiet_step (fail))
            refine wpQuiet_nil ?_
            rintro _ ⟨p, rfl⟩
            obtain ⟨r0, r1, rf0, rf1, rl, _⟩ := HQ2.out.below p.h HQ2.out.lt
            have HB3 : Hid (Below w.heap.size w p.W) := HB2.out.trans (p.h.mono HB2.out.size)
            generalize p.W = W3 at *
            go_wp2
            refine bodyPost_ret (v := .tuple #[.agg #[.slice none 0 0, .int .i64 0], .int .i64 4]) (by simp [results, Tryd.results14, go_sem, r0, r1, rl]) rfl (.inr ⟨HNO.out, rfl, ?_⟩)
            exact (HB3.out.setCell (p := ⟨w.heap.size, 0, none⟩) (Nat.le_refl _) _).setCell (p := ⟨w.heap.size, 1, none⟩) (Nat.le_refl _) _
    · have hin : i = rows.length := by omega
      subst hin
      obtain ⟨va, vc, hqb, how⟩ := HM.out
      obtain ⟨pb9, cb9, e9, hcl, _, _, _, hlow⟩ := Owns.files how
      have e9' : va = pb9 := by injection e9
      rw [← e9'] at hcl hlow
      have HAP : Hid (∀ x, va = some x → x.block ≠ w.heap.size) := fun x hx => by have := (hlow x hx).1; omega
      have KF : Hid _ := quiltFault_any va vc fs t W0 (by unfold maxLen; omega) (HQS.out.sized HZ.out) hcl
      have HCL : Hid (Cells W0 va fs) := hcl
      have HQB : Hid (QBox W0 (w.heap.size + 1) (.slice va fs.length vc) t) := hqb
      have hrng : 0 ≤ quiltF fs t := quiltF_low fs t
      obtain ⟨q0, q1, _, _, _, _⟩ := hqb
      clear how e9 e9' hcl hlow
      go_wp2_with fail
      refine Calls.mono KF.out ?_
      rintro e w5 ⟨rfl, hb⟩
      have HB5 : Hid (Below w.heap.size w w5) := HW0.out.trans (hb.mono HW0.out.size)
      have HC5 : Hid (Cells w5 va fs) := HCL.out.below hb
      obtain ⟨r0, r1, rf0, rf1, rl, _⟩ := HQ.out.below hb HQ.out.lt
      obtain ⟨y0, y1, _, _, yl, _⟩ := HQB.out.below hb HQB.out.lt
      clear hb KF q0 q1
      by_cases hq : quiltF fs t = 0
      · have HIMG : Hid (Img rows fs t) := HQS.out.img hq
        have hq2 : ¬ 0 < quiltF fs t := by omega
        generalize quiltF fs t = F at *
        clear hq
        go_wp2
        refine bodyPost_ret (v := .tuple #[.agg #[.slice va fs.length vc, .int .i64 t], .int .i64 0]) (by simp [results, Tryd.results14, go_sem, r0, r1, rl]) rfl (.inl ⟨fs, t, va, vc, HIMG.out, rfl, ?_, ?_⟩)
        · exact cells_apart (cells_apart HC5.out HAP.out) HAP.out
        · exact (HB5.out.setCell (p := ⟨w.heap.size, 0, none⟩) (Nat.le_refl _) _).setCell (p := ⟨w.heap.size, 1, none⟩) (Nat.le_refl _) _
      · have HNO : Hid (NoImg rows) := HQS.out.noImg hq
        have hq2 : 0 < quiltF fs t := by omega
        generalize quiltF fs t = F at *
        clear hq
        go_wp2
        refine bodyPost_ret (v := .tuple #[.agg #[.slice none 0 0, .int .i64 0], .int .i64 4]) (by simp [results, Tryd.results14, go_sem, r0, r1, rl]) rfl (.inr ⟨HNO.out, rfl, ?_⟩)
        exact (HB5.out.setCell (p := ⟨w.heap.size, 0, none⟩) (Nat.le_refl _) _).setCell (p := ⟨w.heap.size, 1, none⟩) (Nat.le_refl _) _
end Go.Proofs.YtihnghnafpgdfabDoor
