package fd

import "signet/api"

// allFlags is all flags added up, the greatest that may be.
const allFlags = api.FlagRead | api.FlagWrite | api.FlagCreate | api.FlagOnly | api.FlagCut | api.FlagAppend

// Check tells whether flags may be.
func Check(flags int) api.Errno {
	if flags < 1 || flags > allFlags || !has(flags, api.FlagRead|api.FlagWrite) {
		return api.ErrFlags
	}
	if has(flags, api.FlagOnly) && !has(flags, api.FlagCreate) {
		return api.ErrFlags
	}
	if has(flags, api.FlagCut|api.FlagAppend) && !has(flags, api.FlagWrite) {
		return api.ErrFlags
	}
	return api.OK
}

// has tells whether flags have one of these, at least.
func has(flags, these int) bool {
	return flags&these != 0
}

// Reads tells whether flags let read.
func Reads(flags int) bool {
	return Check(flags) == api.OK && has(flags, api.FlagRead)
}

// Writes tells whether flags let write.
func Writes(flags int) bool {
	return Check(flags) == api.OK && has(flags, api.FlagWrite)
}
