package text

import (
	"strconv"
	"strings"

	"barbican/api"
	"barbican/ins"
)

// lineOf is the line of i, which is right.
func lineOf(i api.Ins) string {
	parts := partsOf(i)
	if len(parts) == 0 {
		return wordOf(i)
	}
	return wordOf(i) + " " + strings.Join(parts, ", ")
}

// partsOf is what commas part in i's line.
func partsOf(i api.Ins) []string {
	switch {
	case i.Op == api.Exit:
		return nil
	case i.Op == api.Jump:
		return []string{signedOf(i.Off)}
	case i.Op == api.Neg:
		return []string{registerOf(i.Dst)}
	case i.Op == api.Load:
		return []string{registerOf(i.Dst), cellOf(i.Src, i.Off)}
	case i.Op == api.Put:
		return []string{cellOf(i.Dst, i.Off), secondOf(i)}
	case ins.Jumps(i):
		return []string{registerOf(i.Dst), secondOf(i), signedOf(i.Off)}
	}
	return []string{registerOf(i.Dst), secondOf(i)}
}

func registerOf(n int) string {
	return registerBegin + strconv.Itoa(n)
}

func secondOf(i api.Ins) string {
	if i.UseImm {
		return strconv.Itoa(i.Imm)
	}
	return registerOf(i.Src)
}

func cellOf(register, off int) string {
	sign, away := " + ", off
	if off < 0 {
		sign, away = " - ", -off
	}
	return "[" + registerOf(register) + sign + strconv.Itoa(away) + "]"
}

func signedOf(n int) string {
	if n < 0 {
		return strconv.Itoa(n)
	}
	return "+" + strconv.Itoa(n)
}
