/- The program's own scan.name, flawed, first, Next: contracts. -/
import Derived.Test.YtkaijnbefbggeaaDoorScanB
import Derived.Test.YtkaijnbefbggeaaDoorScanC
import Derived.Test.YtkaijnbefbggeaaDoorStrClone
import Derived.Test.YtkaijnbefbggeaaDoorRef06C
set_option linter.unusedVariables false
namespace Go.Proofs.YtkaijnbefbggeaaDoor
open Go.RowKit

/-- What the program's functions of layer 6 need of the memory: the three tables. -/
structure ScanE (w : World) : Prop where
  sp : Spans w
  wd : WordTab w
  mt : MarkTab w
theorem ScanE.under {w w' : World} (h : ScanE w) (hb : Below w.heap.size w w') : ScanE w' := ⟨h.sp.below hb h.sp.lt, h.wd.under hb, h.mt.under hb⟩

theorem SR.tup_is (l : List UInt8) (r : SR) : ∃ k n b a len er, r.tup l = .tuple #[.agg #[.int .i8 k, .int .i64 n, .string b, .int .i64 a], .int .i64 len, .int .i64 er] := by
  cases r
  · exact ⟨_, _, _, _, _, _, rfl⟩
  · exact ⟨_, _, _, _, _, _, rfl⟩

/-- What name answers. -/
def nameR (l : List UInt8) : SR := if 32 < l.length then .bad 11 else .tok (if wordL l = true then 3 else if kindN ((l.headD 0).toNat : Int) = 2 then 0 else 1) 0 l.length l.length
theorem word_short {l : List UInt8} (h : wordL l = true) : ¬ 32 < l.length := by
  unfold wordL at h
  rw [List.any_eq_true] at h
  obtain ⟨x, hx, he⟩ := h
  rw [eq_of_beq he]
  have : ∀ x ∈ wordList, ¬ 32 < x.length := by decide
  exact this x hx
theorem kd_head (s : ByteArray) (h : 0 < s.size) : kd s 0 = kindN ((s.data.toList.headD 0).toNat : Int) := by
  have hc : s.data.toList = s[0] :: s.data.toList.drop 1 := by
    have := drop_cons (l := s.data.toList) (k := 0) (by rw [size_list]; exact h)
    rw [List.drop_zero] at this
    exact this
  rw [← kd_at s 0 h, hc]
  rfl

theorem box4 (w : World) : (w.alloc (.cells #[.int .i8 0, .int .i64 0, .string ⟨#[]⟩, .int .i64 0] 25)).heap[w.heap.size]? = some (.cells #[.int .i8 0, .int .i64 0, .string ⟨#[]⟩, .int .i64 0] 25 (0, 0)) ∧ Below w.heap.size w (w.alloc (.cells #[.int .i8 0, .int .i64 0, .string ⟨#[]⟩, .int .i64 0] 25)) :=
  ⟨block_alloc _ _, (Below.refl _ _).alloc (Nat.le_refl _) _⟩

set_option maxRecDepth 100000 in
set_option maxHeartbeats 4000000 in
theorem sname_any (s : ByteArray) (w : World) (hs : s.size ≤ 1000000) (h1 : 1 ≤ s.size) (hp : prefN s = s.size) (hk : kd s 0 = 2 ∨ kd s 0 = 3) (hE : ScanE w) :
    Calls Tryd.prog 23 #[.string s] w fun e w' => e = .returned ((nameR s.data.toList).tup s.data.toList) ∧ Below w.heap.size w w' := by
  obtain ⟨g2, b2⟩ := box4 w
  have HB2 := Lib.hid b2
  have HG2 := Lib.hid g2
  have HE2 := Lib.hid (hE.under b2)
  clear g2 b2
  have hH := kd_head s h1
  have HS : Hid (s.data.toList.length = s.size) := size_list s
  have HM : s.size ≤ maxLen := by unfold maxLen; omega
  have HMX := Lib.hid HM
  have HC : Hid (s.size ≤ 281474976710656) := by show _ ≤ _; omega
  have hall : (s.data.toList.take s.data.toList.length).toArray = s.data := by rw [List.take_length]
  have HALL : Hid ((⟨(s.data.toList.take s.data.toList.length).toArray⟩ : ByteArray) = s) := by show _ = _; rw [hall]
  clear hall HM
  obtain ⟨R, hR⟩ : ∃ R, R = nameR s.data.toList := ⟨_, rfl⟩
  rw [← hR]
  cases hw : wordL s.data.toList
  · by_cases h32 : 32 < s.size
    · have hm : nameB s 2 = false := by unfold nameB; rw [decide_eq_false]; omega
      have hn : nameB s 3 = false := by unfold nameB; rw [decide_eq_false]; omega
      have HR : Hid (R = .bad 11) := by show _ = _; rw [hR]; unfold nameR; rw [if_pos (by rw [HS.out]; exact h32)]
      clear hR h32 hp hk
      go_enter Tryd.func23, Tryd.ntmps23
      go_wp2_with fail
      generalize w.alloc (.cells #[.int .i8 0, .int .i64 0, .string ⟨#[]⟩, .int .i64 0] 25) = w2 at HB2 HG2 HE2 ⊢
      refine (sWord_any s w2 HE2.out.wd).mono ?_
      rintro e w3 ⟨rfl, hq⟩
      subst w3
      rw [hw]
      go_wp2_with fail
      refine (May_any s HMX.out w2 HE2.out.sp).mono ?_
      rintro e w4 ⟨rfl, b4⟩
      rw [hm]
      have HB4 := Lib.hid (HB2.out.trans (b4.mono HB2.out.size))
      have HG4 := Lib.hid ((b4.block _ (heap_lt HG2.out)).trans HG2.out)
      have HE4 := Lib.hid (HE2.out.under b4)
      clear b4
      go_wp2_with fail
      refine (Name_any s HMX.out w4 HE4.out.sp).mono ?_
      rintro e w5 ⟨rfl, b5⟩
      rw [hn]
      have HB5 := Lib.hid (HB4.out.trans (b5.mono HB4.out.size))
      have HG5 := Lib.hid ((b5.block _ (heap_lt HG4.out)).trans HG4.out)
      have HE5 := Lib.hid (HE4.out.under b5)
      clear b5
      have x0 : w5.cell? ⟨w.heap.size, 0, none⟩ = some (.int .i8 0) := cell_of_row HG5.out rfl
      have x1 : w5.cell? ⟨w.heap.size, 1, none⟩ = some (.int .i64 0) := cell_of_row HG5.out rfl
      have x2 : w5.cell? ⟨w.heap.size, 2, none⟩ = some (.string ⟨#[]⟩) := cell_of_row HG5.out rfl
      have x3 : w5.cell? ⟨w.heap.size, 3, none⟩ = some (.int .i64 0) := cell_of_row HG5.out rfl
      have fx0 : w5.frozen? ⟨w.heap.size, 0, none⟩ = false := free_of_row HG5.out
      have fx1 : w5.frozen? ⟨w.heap.size, 1, none⟩ = false := free_of_row HG5.out
      have fx2 : w5.frozen? ⟨w.heap.size, 2, none⟩ = false := free_of_row HG5.out
      have fx3 : w5.frozen? ⟨w.heap.size, 3, none⟩ = false := free_of_row HG5.out
      go_wp2_with fail
      obtain ⟨s4, m7⟩ := fin4 (.int .i8 0) (.int .i64 0) (.string ⟨#[]⟩) (.int .i64 0) HG5.out HB5.out
      generalize ((((w5.setCell ⟨w.heap.size, 0, none⟩ (.int .i8 0)).setCell ⟨w.heap.size, 1, none⟩ (.int .i64 0)).setCell ⟨w.heap.size, 2, none⟩ (.string ⟨#[]⟩)).setCell ⟨w.heap.size, 3, none⟩ (.int .i64 0)) = w9 at s4 m7 ⊢
      clear x0 x1 x2 x3 fx0 fx1 fx2 fx3
      have x0 : w9.cell? ⟨w.heap.size, 0, none⟩ = some (.int .i8 0) := cell_of_row s4 rfl
      have x1 : w9.cell? ⟨w.heap.size, 1, none⟩ = some (.int .i64 0) := cell_of_row s4 rfl
      have x2 : w9.cell? ⟨w.heap.size, 2, none⟩ = some (.string ⟨#[]⟩) := cell_of_row s4 rfl
      have x3 : w9.cell? ⟨w.heap.size, 3, none⟩ = some (.int .i64 0) := cell_of_row s4 rfl
      have HM7 := Lib.hid m7
      clear s4 m7
      refine bodyPost_ret (v := SR.tup s.data.toList (.bad 11)) (by simp [results, Tryd.f23, go_sem, x0, x1, x2, x3, SR.tup, Tk.v, tk0]) rfl ⟨by rw [HR.out], HM7.out⟩
    · rcases hk with hk | hk
      · have hm : nameB s 2 = true := by unfold nameB; rw [decide_eq_true]; exact ⟨h1, by omega, hk, hp⟩
        have HR : Hid (R = .tok 0 0 s.data.toList.length s.data.toList.length) := by
          show _ = _; rw [hR]; unfold nameR; rw [if_neg (by rw [HS.out]; exact h32), hw, if_neg (by decide), if_pos (by rw [← hH]; exact hk)]
        clear hR h32 hp hk
        go_enter Tryd.func23, Tryd.ntmps23
        go_wp2_with fail
        generalize w.alloc (.cells #[.int .i8 0, .int .i64 0, .string ⟨#[]⟩, .int .i64 0] 25) = w2 at HB2 HG2 HE2 ⊢
        refine (sWord_any s w2 HE2.out.wd).mono ?_
        rintro e w3 ⟨rfl, hq⟩
        subst w3
        rw [hw]
        go_wp2_with fail
        refine (May_any s HMX.out w2 HE2.out.sp).mono ?_
        rintro e w4 ⟨rfl, b4⟩
        rw [hm]
        have HB4 := Lib.hid (HB2.out.trans (b4.mono HB2.out.size))
        have HG4 := Lib.hid ((b4.block _ (heap_lt HG2.out)).trans HG2.out)
        have HE4 := Lib.hid (HE2.out.under b4)
        clear b4
        go_wp2_with fail
        refine (Clone_any s w4 HC.out).mono ?_
        rintro e w5 ⟨rfl, b5⟩
        have HB5 := Lib.hid (HB4.out.trans (b5.mono HB4.out.size))
        have HG5 := Lib.hid ((b5.block _ (heap_lt HG4.out)).trans HG4.out)
        have HE5 := Lib.hid (HE4.out.under b5)
        clear b5
        have x0 : w5.cell? ⟨w.heap.size, 0, none⟩ = some (.int .i8 0) := cell_of_row HG5.out rfl
        have x1 : w5.cell? ⟨w.heap.size, 1, none⟩ = some (.int .i64 0) := cell_of_row HG5.out rfl
        have x2 : w5.cell? ⟨w.heap.size, 2, none⟩ = some (.string ⟨#[]⟩) := cell_of_row HG5.out rfl
        have x3 : w5.cell? ⟨w.heap.size, 3, none⟩ = some (.int .i64 0) := cell_of_row HG5.out rfl
        have fx0 : w5.frozen? ⟨w.heap.size, 0, none⟩ = false := free_of_row HG5.out
        have fx1 : w5.frozen? ⟨w.heap.size, 1, none⟩ = false := free_of_row HG5.out
        have fx2 : w5.frozen? ⟨w.heap.size, 2, none⟩ = false := free_of_row HG5.out
        have fx3 : w5.frozen? ⟨w.heap.size, 3, none⟩ = false := free_of_row HG5.out
        go_wp2_with fail
        obtain ⟨s4, m7⟩ := fin4 (.int .i8 0) (.int .i64 0) (.string s) (.int .i64 0) HG5.out HB5.out
        generalize ((((w5.setCell ⟨w.heap.size, 0, none⟩ (.int .i8 0)).setCell ⟨w.heap.size, 1, none⟩ (.int .i64 0)).setCell ⟨w.heap.size, 2, none⟩ (.string s)).setCell ⟨w.heap.size, 3, none⟩ (.int .i64 0)) = w9 at s4 m7 ⊢
        clear x0 x1 x2 x3 fx0 fx1 fx2 fx3
        have x0 : w9.cell? ⟨w.heap.size, 0, none⟩ = some (.int .i8 0) := cell_of_row s4 rfl
        have x1 : w9.cell? ⟨w.heap.size, 1, none⟩ = some (.int .i64 0) := cell_of_row s4 rfl
        have x2 : w9.cell? ⟨w.heap.size, 2, none⟩ = some (.string s) := cell_of_row s4 rfl
        have x3 : w9.cell? ⟨w.heap.size, 3, none⟩ = some (.int .i64 0) := cell_of_row s4 rfl
        have HM7 := Lib.hid m7
        clear s4 m7
        refine bodyPost_ret (v := .tuple #[Tk.v ⟨0, 0, s, 0⟩, .int .i64 s.size, .int .i64 0]) (by simp [results, Tryd.f23, go_sem, x0, x1, x2, x3, Tk.v]) rfl ⟨by rw [HR.out, SR.tup, HALL.out, HS.out], HM7.out⟩
      · have hm : nameB s 2 = false := by unfold nameB; rw [decide_eq_false]; rw [hk]; simp
        have hn : nameB s 3 = true := by unfold nameB; rw [decide_eq_true]; exact ⟨h1, by omega, hk, hp⟩
        have HR : Hid (R = .tok 1 0 s.data.toList.length s.data.toList.length) := by
          show _ = _; rw [hR]; unfold nameR; rw [if_neg (by rw [HS.out]; exact h32), hw, if_neg (by decide), if_neg (by rw [← hH, hk]; decide)]
        clear hR h32 hp hk
        go_enter Tryd.func23, Tryd.ntmps23
        go_wp2_with fail
        generalize w.alloc (.cells #[.int .i8 0, .int .i64 0, .string ⟨#[]⟩, .int .i64 0] 25) = w2 at HB2 HG2 HE2 ⊢
        refine (sWord_any s w2 HE2.out.wd).mono ?_
        rintro e w3 ⟨rfl, hq⟩
        subst w3
        rw [hw]
        go_wp2_with fail
        refine (May_any s HMX.out w2 HE2.out.sp).mono ?_
        rintro e w4 ⟨rfl, b4⟩
        rw [hm]
        have HB4 := Lib.hid (HB2.out.trans (b4.mono HB2.out.size))
        have HG4 := Lib.hid ((b4.block _ (heap_lt HG2.out)).trans HG2.out)
        have HE4 := Lib.hid (HE2.out.under b4)
        clear b4
        go_wp2_with fail
        refine (Name_any s HMX.out w4 HE4.out.sp).mono ?_
        rintro e w5 ⟨rfl, b5⟩
        rw [hn]
        have HB5 := Lib.hid (HB4.out.trans (b5.mono HB4.out.size))
        have HG5 := Lib.hid ((b5.block _ (heap_lt HG4.out)).trans HG4.out)
        have HE5 := Lib.hid (HE4.out.under b5)
        clear b5
        go_wp2_with fail
        refine (Clone_any s w5 HC.out).mono ?_
        rintro e w6 ⟨rfl, b6⟩
        have HB6 := Lib.hid (HB5.out.trans (b6.mono HB5.out.size))
        have HG6 := Lib.hid ((b6.block _ (heap_lt HG5.out)).trans HG5.out)
        have HE6 := Lib.hid (HE5.out.under b6)
        clear b6
        have x0 : w6.cell? ⟨w.heap.size, 0, none⟩ = some (.int .i8 0) := cell_of_row HG6.out rfl
        have x1 : w6.cell? ⟨w.heap.size, 1, none⟩ = some (.int .i64 0) := cell_of_row HG6.out rfl
        have x2 : w6.cell? ⟨w.heap.size, 2, none⟩ = some (.string ⟨#[]⟩) := cell_of_row HG6.out rfl
        have x3 : w6.cell? ⟨w.heap.size, 3, none⟩ = some (.int .i64 0) := cell_of_row HG6.out rfl
        have fx0 : w6.frozen? ⟨w.heap.size, 0, none⟩ = false := free_of_row HG6.out
        have fx1 : w6.frozen? ⟨w.heap.size, 1, none⟩ = false := free_of_row HG6.out
        have fx2 : w6.frozen? ⟨w.heap.size, 2, none⟩ = false := free_of_row HG6.out
        have fx3 : w6.frozen? ⟨w.heap.size, 3, none⟩ = false := free_of_row HG6.out
        go_wp2_with fail
        obtain ⟨s4, m7⟩ := fin4 (.int .i8 1) (.int .i64 0) (.string s) (.int .i64 0) HG6.out HB6.out
        generalize ((((w6.setCell ⟨w.heap.size, 0, none⟩ (.int .i8 1)).setCell ⟨w.heap.size, 1, none⟩ (.int .i64 0)).setCell ⟨w.heap.size, 2, none⟩ (.string s)).setCell ⟨w.heap.size, 3, none⟩ (.int .i64 0)) = w9 at s4 m7 ⊢
        clear x0 x1 x2 x3 fx0 fx1 fx2 fx3
        have x0 : w9.cell? ⟨w.heap.size, 0, none⟩ = some (.int .i8 1) := cell_of_row s4 rfl
        have x1 : w9.cell? ⟨w.heap.size, 1, none⟩ = some (.int .i64 0) := cell_of_row s4 rfl
        have x2 : w9.cell? ⟨w.heap.size, 2, none⟩ = some (.string s) := cell_of_row s4 rfl
        have x3 : w9.cell? ⟨w.heap.size, 3, none⟩ = some (.int .i64 0) := cell_of_row s4 rfl
        have HM7 := Lib.hid m7
        clear s4 m7
        refine bodyPost_ret (v := .tuple #[Tk.v ⟨1, 0, s, 0⟩, .int .i64 s.size, .int .i64 0]) (by simp [results, Tryd.f23, go_sem, x0, x1, x2, x3, Tk.v]) rfl ⟨by rw [HR.out, SR.tup, HALL.out, HS.out], HM7.out⟩
  · have HR : Hid (R = .tok 3 0 s.data.toList.length s.data.toList.length) := by
      show _ = _; rw [hR]; unfold nameR; rw [if_neg (word_short hw), if_pos hw]
    clear hR hp hk
    go_enter Tryd.func23, Tryd.ntmps23
    go_wp2_with fail
    generalize w.alloc (.cells #[.int .i8 0, .int .i64 0, .string ⟨#[]⟩, .int .i64 0] 25) = w2 at HB2 HG2 HE2 ⊢
    refine (sWord_any s w2 HE2.out.wd).mono ?_
    rintro e w3 ⟨rfl, hq⟩
    subst w3
    rw [hw]
    go_wp2_with fail
    refine (Clone_any s w2 HC.out).mono ?_
    rintro e w4 ⟨rfl, b4⟩
    have HB4 := Lib.hid (HB2.out.trans (b4.mono HB2.out.size))
    have HG4 := Lib.hid ((b4.block _ (heap_lt HG2.out)).trans HG2.out)
    have HE4 := Lib.hid (HE2.out.under b4)
    clear b4
    have x0 : w4.cell? ⟨w.heap.size, 0, none⟩ = some (.int .i8 0) := cell_of_row HG4.out rfl
    have x1 : w4.cell? ⟨w.heap.size, 1, none⟩ = some (.int .i64 0) := cell_of_row HG4.out rfl
    have x2 : w4.cell? ⟨w.heap.size, 2, none⟩ = some (.string ⟨#[]⟩) := cell_of_row HG4.out rfl
    have x3 : w4.cell? ⟨w.heap.size, 3, none⟩ = some (.int .i64 0) := cell_of_row HG4.out rfl
    have fx0 : w4.frozen? ⟨w.heap.size, 0, none⟩ = false := free_of_row HG4.out
    have fx1 : w4.frozen? ⟨w.heap.size, 1, none⟩ = false := free_of_row HG4.out
    have fx2 : w4.frozen? ⟨w.heap.size, 2, none⟩ = false := free_of_row HG4.out
    have fx3 : w4.frozen? ⟨w.heap.size, 3, none⟩ = false := free_of_row HG4.out
    go_wp2_with fail
    obtain ⟨s4, m7⟩ := fin4 (.int .i8 3) (.int .i64 0) (.string s) (.int .i64 0) HG4.out HB4.out
    generalize ((((w4.setCell ⟨w.heap.size, 0, none⟩ (.int .i8 3)).setCell ⟨w.heap.size, 1, none⟩ (.int .i64 0)).setCell ⟨w.heap.size, 2, none⟩ (.string s)).setCell ⟨w.heap.size, 3, none⟩ (.int .i64 0)) = w9 at s4 m7 ⊢
    clear x0 x1 x2 x3 fx0 fx1 fx2 fx3
    have x0 : w9.cell? ⟨w.heap.size, 0, none⟩ = some (.int .i8 3) := cell_of_row s4 rfl
    have x1 : w9.cell? ⟨w.heap.size, 1, none⟩ = some (.int .i64 0) := cell_of_row s4 rfl
    have x2 : w9.cell? ⟨w.heap.size, 2, none⟩ = some (.string s) := cell_of_row s4 rfl
    have x3 : w9.cell? ⟨w.heap.size, 3, none⟩ = some (.int .i64 0) := cell_of_row s4 rfl
    have HM7 := Lib.hid m7
    clear s4 m7
    refine bodyPost_ret (v := .tuple #[Tk.v ⟨3, 0, s, 0⟩, .int .i64 s.size, .int .i64 0]) (by simp [results, Tryd.f23, go_sem, x0, x1, x2, x3, Tk.v]) rfl ⟨by rw [HR.out, SR.tup, HALL.out, HS.out], HM7.out⟩
end Go.Proofs.YtkaijnbefbggeaaDoor
