/-
  Rows of plans: the laws' toPlanS.
-/
import Derived.Test.YtllmgjfffkhocaaPnB
namespace Go.Proofs.Ytllmgjfffkhocaa
open Go.RowKit
set_option linter.unusedVariables false
set_option linter.unusedSimpArgs false

set_option maxHeartbeats 12800000 in
set_option maxRecDepth 100000 in
theorem toPlanS_any (v : Value) (l : List Pn) (B : Nat) (w : World) (hl : wtPS l ≤ 1048576) (hB : B ≤ w.heap.size) (ha : ArgPS B w v l) :
    Calls Try.prog 10 #[v] w fun e w' => ∃ u fp, e = .returned u ∧ OwnS pnKd w' w.heap.size u l fp ∧ Below w.heap.size w w' := by
  obtain ⟨i0, hi, hz0, hz1, hz2⟩ := info_parts infoPlan
  obtain ⟨a0, cap, hv⟩ := ha.shape
  obtain ⟨len, hlen⟩ : ∃ n, l.length = n := ⟨_, rfl⟩
  rw [hlen] at hv
  subst hv
  have hl20 : len ≤ 1048576 := by unfold wtPS at hl; omega
  have HA : Hid (ArgPS B w (.slice a0 len cap) l ∧ l.length = len ∧ wtPS l ≤ 1048576) := ⟨ha, hlen, hl⟩
  clear ha hlen hl
  go_enter Try.func10, Try.ntmps10
  go_wp2_with (at_make; refine wpList_make_full _ rfl _ _ 31 rfl w.heap.size 57 i0 (.agg #[.int .i64 0, .slice none 0 0, .int .i64 0, .slice none 0 0, .bool false, .bool false, .int .i64 0]) 7 Try.underlying31 hi hz0 hz1 .i64 .i64 _ _ len rfl rfl ?m0 ?m1 ?m2 ?m3 ?m4 ?_)
  case m0 => simp
  case m1 => simp
  case m2 => rw [hz2]; omega
  case m3 => unfold maxLen; omega
  case m4 => exact Nat.le_refl _
  intro w1 hown hgrow
  have HO : Hid (∃ fp, OwnS pnKd w1 w.heap.size (.slice (some ⟨w.heap.size, 0, none⟩) len len) (l.take 0 ++ List.replicate (l.length - 0) zePn) fp ∧ Below w.heap.size w w1) := by
    refine ⟨[w.heap.size], ?_, (Below.refl _ _).grown hgrow (Nat.le_refl _) (fun j hj => by cases hj)⟩
    rw [List.take_zero, List.nil_append, Nat.sub_zero, HA.out.2.1]
    exact OwnS.zeros pnKd (own_zePn _ _) rfl (by have h2 : (madeCells zePnV.cells (len * 7)).toList = cellsV (List.replicate len zePnV) := made_cellsV zePnV len (by decide); rw [← h2]; exact hown)
  clear hown hgrow
  go_wp2_with fail
  go_loopw [4] (fun iv wr => ∃ k : Nat, k ≤ len ∧ iv = .int .i64 k ∧ Hid (∃ fp, OwnS pnKd wr w.heap.size (.slice (some ⟨w.heap.size, 0, none⟩) len len) (l.take k ++ List.replicate (l.length - k) zePn) fp ∧ Below w.heap.size w wr)) (fun iv _ => len - (intOf iv).toNat)
  case atStart => exact ⟨0, Nat.zero_le _, rfl, HO.out⟩
  case round =>
    obtain ⟨k, hk, rfl, H⟩ := hrel
    clear HO
    by_cases hkn : k < len
    · have hkl : k < l.length := by rw [HA.out.2.1]; exact hkn
      obtain ⟨b, off, u, hao, hbB, hPu, hus, hcell⟩ := HA.out.1.get hkl
      obtain ⟨ap, aq, ep, eq, hu⟩ := hPu.shape
      subst hao
      obtain ⟨fp, hO, hBl⟩ := H.out
      have HP : Hid (ArgPn w.heap.size wr u l[k]) := (hPu.mono hB).below hBl
      have hcb := fun i x (hx : u.cells[i]? = some x) => (hBl.cell (p := ⟨b, off + k * 7 + i, none⟩) (by show b < w.heap.size; omega)).trans (hcell i x hx)
      obtain ⟨c, hc⟩ : ∃ c, l[k] = c := ⟨_, rfl⟩
      rw [hc] at HP hu
      have HR := toPlan_any c u w.heap.size wr (by have h1 := wtPS_mem (List.getElem_mem hkl); rw [hc] at h1; exact wtPn_lens (Nat.le_trans h1 HA.out.2.2)) hBl.size HP.out
      subst hu
      have u0 : wr.cell? ⟨b, off + k * 7, none⟩ = some (.int .i64 c.id) := hcb 0 _ rfl
      have u1 : wr.cell? ⟨b, off + k * 7 + 1, none⟩ = some (.slice ap c.anc.length aq) := hcb 1 _ rfl
      have u2 : wr.cell? ⟨b, off + k * 7 + 2, none⟩ = some (.int .i64 c.ru.time) := hcb 2 _ rfl
      have u3 : wr.cell? ⟨b, off + k * 7 + 3, none⟩ = some (.slice ep c.ru.pol.length eq) := hcb 3 _ rfl
      have u4 : wr.cell? ⟨b, off + k * 7 + 4, none⟩ = some (.bool c.ru.expl) := hcb 4 _ rfl
      have u5 : wr.cell? ⟨b, off + k * 7 + 5, none⟩ = some (.bool c.ru.chk) := hcb 5 _ rfl
      have u6 : wr.cell? ⟨b, off + k * 7 + 6, none⟩ = some (.int .i64 c.ru.usage) := hcb 6 _ rfl
      have HN : Hid (∀ (w3 : World) (p e : Value), Below wr.heap.size wr w3 → OwnPn w3 wr.heap.size (pnV c p e) c → ∃ fp, OwnS pnKd (w3.setCells w.heap.size (k * 7) [.int .i64 c.id, p, .int .i64 c.ru.time, e, .bool c.ru.expl, .bool c.ru.chk, .int .i64 c.ru.usage]) w.heap.size (.slice (some ⟨w.heap.size, 0, none⟩) len len) (l.take (k + 1) ++ List.replicate (l.length - (k + 1)) zePn) fp ∧ Below w.heap.size w (w3.setCells w.heap.size (k * 7) [.int .i64 c.id, p, .int .i64 c.ru.time, e, .bool c.ru.expl, .bool c.ru.chk, .int .i64 c.ru.usage])) := fun w3 p e hb hop => by
        have h2 := (hO.stays hb).put (j := k) (by rw [fillPn_len (Nat.le_of_lt hkl)]; exact HA.out.2.1.symm) (by rw [fillPn_len (Nat.le_of_lt hkl)]; exact hkl) (hop.base hBl.size) (fun y hy hm => by have h3 := fpPn_lt hop y hy; have h4 := hO.lt y hm; omega)
        obtain ⟨fp', h2, _⟩ := h2
        rw [← hc, fillPn_set hkl] at h2
        rw [← hc]
        have e1 : w3.setCells w.heap.size (k * 7) [.int .i64 l[k].id, p, .int .i64 l[k].ru.time, e, .bool l[k].ru.expl, .bool l[k].ru.chk, .int .i64 l[k].ru.usage] = putCells w3 w.heap.size (k * 7) (pnV l[k] p e).cells.toList := (putCells_set _ _ _ _).symm
        rw [e1]
        refine ⟨fp', h2, ?_⟩
        exact (hBl.trans (hb.mono hBl.size)).trans ((putCells_out _ _ _ _).below (fun b hb => by rw [List.mem_singleton.1 hb]; exact Nat.le_refl _) (hBl.trans (hb.mono hBl.size)).size)
      have HC : Hid (∀ w3, Below wr.heap.size wr w3 → w3.there w.heap.size (k * 7) 7) := fun w3 hb => by
        obtain ⟨⟨u, hu, _, hcs⟩, hfz⟩ := (hO.stays hb).cellsPn (j := k) (by rw [fillPn_len (Nat.le_of_lt hkl)]; exact HA.out.2.1.symm) (by rw [fillPn_len (Nat.le_of_lt hkl)]; exact hkl)
        obtain ⟨p, e, rfl, _⟩ := hu
        intro j hj
        refine ⟨?_, hfz _⟩
        have h7 : j < (pnV ((l.take k ++ List.replicate (l.length - k) zePn)[k]'(by rw [fillPn_len (Nat.le_of_lt hkl)]; exact hkl)) p e).cells.size := hj
        rw [hcs j _ (Array.getElem?_eq_getElem h7)]
        rfl
      clear H hO hBl HP hcb hcell hPu hus hbB hc hkl
      have hki : (k : Int) < (len : Int) := by omega
      have hk0 : (0 : Int) ≤ (k : Int) := by omega
      unfold pnV at HR HN
      go_wp2_with fail
      refine HR.mono ?_
      rintro e w3 ⟨v3, rfl, ⟨p3, e3, rfl, ho3, ho4, hap⟩, hb3⟩
      have hth := HC.out w3 hb3
      have HN3 := HN.out w3 p3 e3 hb3 ⟨p3, e3, rfl, ho3, ho4, hap⟩
      obtain ⟨qa, qc, hq3, -⟩ := ho3.at
      obtain ⟨qe, qf, hq4, -⟩ := ho4.at
      subst hq3 hq4
      clear HN HC hb3 u0 u1 u2 u3 u4 u5 u6 HR ho3 ho4 hap
      have HN : Hid _ := HN3
      clear HN3
      unfold pnV
      obtain ⟨VV, hVV⟩ : ∃ V, V = w3.setCells w.heap.size (k * 7) #[.int .i64 c.id, .slice qa c.anc.length qc, .int .i64 c.ru.time, .slice qe c.ru.pol.length qf, .bool c.ru.expl, .bool c.ru.chk, .int .i64 c.ru.usage].toList := ⟨_, rfl⟩
      have HNV : Hid (∃ fp, OwnS pnKd VV w.heap.size (.slice (some ⟨w.heap.size, 0, none⟩) len len) (l.take (k + 1) ++ List.replicate (l.length - (k + 1)) zePn) fp ∧ Below w.heap.size w VV) := by rw [hVV]; exact HN.out
      clear HN
      go_wp2_with (refine step_storeV rfl 57 _ _ rfl w.heap.size (k * 7) #[.int .i64 c.id, .slice qa c.anc.length qc, .int .i64 c.ru.time, .slice qe c.ru.pol.length qf, .bool c.ru.expl, .bool c.ru.chk, .int .i64 c.ru.usage] rfl rfl hth (by kernel_rfl) (by simp [Value.oneCell']) hVV ?_; clear hVV hth)
      go_roundw
      case rel => exact ⟨k + 1, by omega, by go_num, HNV.out⟩
      case measure => simp [intOf]; omega
    · have hkl : k = len := by omega
      subst hkl
      go_wp2
      go_ret
      obtain ⟨fp, hO, hBl⟩ := H.out
      refine ⟨_, fp, rfl, ?_, hBl⟩
      rw [← HA.out.2.1, List.take_length, Nat.sub_self, List.replicate_zero, List.append_nil] at hO
      rw [← HA.out.2.1]
      exact hO
end Go.Proofs.Ytllmgjfffkhocaa
